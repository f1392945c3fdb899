import Derived.Test.YtbfggcekifaldaaGreatTks
import Derived.Test.YtbfggcekifaldaaGreatTxo
namespace Go.Proofs.YtbfggcekifaldaaGreat
open Go.RowKit
set_option linter.unusedVariables false
set_option linter.unusedSimpArgs false
set_option maxRecDepth 100000
theorem NodeQ.one {w:World} {B:Nat} {Q:Nat->Prop} {z:T} {cs:List Value} (h:NodeQ w B Q z cs):∀ u ∈ cs,u.oneCell'=true:=by
 obtain⟨_,_,_,_,_,_,_,_,_,_,_,_,e,_⟩:=h.out
 intro u hu
 rw[e] at hu
 simp at hu
 rcases hu with rfl | rfl | rfl | rfl | rfl | rfl<;>rfl
theorem OL.src' {w:World} {base:Nat} {Q:Nat->Prop} {ys:List T} {b c:Nat} {css:Nat->List Value} (h:OL w base Q ys b c css) {V:World} (hV:V.heap[b]?=w.heap[b]?) (hb:b<V.heap.size) (hn:ys.length<=1000):SrcAt V V.heap.size 6 ys.length (.slice (some ⟨b,0,none⟩) ys.length c) (rowsC css ys.length):=by
 have hg:=rowsC_get h.six
 refine⟨hg.1,by omega,fun u hu=>?_,_,_,rfl,fun e=>(by cases e),fun _=>⟨_,_,rfl⟩,fun x hx j u hj=>?_⟩
 ·unfold rowsC at hu
  obtain⟨i,hi,hu⟩:=List.mem_flatMap.1 hu
  have hi2:=List.mem_range.1 hi
  exact (h.kid i _ (List.getElem?_eq_getElem hi2)).one u hu
 ·cases hx
  have hjl:=(List.getElem?_eq_some_iff.1 hj).1
  rw[hg.1] at hjl
  have e:(⟨b,0,none⟩:Addr).add j=⟨b,j,none⟩:=by simp[Addr.add];omega
  rw[e]
  refine⟨hb,(World.cell?_of_block (w:=w) (a:=⟨b,j,none⟩) hV).trans ?_⟩
  rw[h.row.cellAt j (by omega)]
  exact hj
theorem src_six {w:World} {N:Nat} {lf3:Bool} {pg3:Int} {ka3:Option Addr} {kn3 kc3:Nat} {va3:Option Addr} {vn3 vc3:Nat} {oa3:Option Addr} {on3 oc3:Nat} {ya3:Option Addr} {yn3 yc3:Nat} (h:w.heap[N]?=some (.cells #[.bool lf3,.int .i64 pg3,.slice ka3 kn3 kc3,.slice va3 vn3 vc3,.slice oa3 on3 oc3,.slice ya3 yn3 yc3] 47)):SrcAt w w.heap.size 6 1 (.slice (some ⟨N,0,none⟩) 1 1) [.bool lf3,.int .i64 pg3,.slice ka3 kn3 kc3,.slice va3 vn3 vc3,.slice oa3 on3 oc3,.slice ya3 yn3 yc3]:=by
 have hl:=(Array.getElem?_eq_some_iff.1 h).1
 refine⟨rfl,by omega,fun u hu=>?_,_,_,rfl,fun e=>(by cases e),fun _=>⟨_,_,rfl⟩,fun x hx j u hj=>?_⟩
 ·simp at hu
  rcases hu with rfl | rfl | rfl | rfl | rfl | rfl<;>rfl
 ·cases hx
  have e:(⟨N,0,none⟩:Addr).add j=⟨N,j,none⟩:=by simp[Addr.add];omega
  rw[e]
  refine⟨hl,?_⟩
  unfold World.cell?
  rw[h]
  simpa using hj
theorem rows_tight {α:Type} {w:World} {B m:Nat} {Q:Nat->Prop} {cs:α->List Value} {fit:α->Prop} {d:α} {a:Option Addr} {n c:Nat} {xs:List α} (h:RowsAt w 0 B m cs fit d a n c xs) (hq:QA Q a n):QA (fun g=>Q g∧g<B) a n:=fun h0=>by
 obtain⟨b,off,e,hb⟩:=hq h0
 obtain⟨b2,off2,e2,hb2⟩:=strs_qa h h0
 rw[e] at e2
 cases e2
 exact⟨b,off,e,hb,hb2⟩
theorem NodeQ.tight {w:World} {B:Nat} {Q:Nat->Prop}:∀ (t:T) (cs:List Value),NodeQ w B Q t cs->NodeQ w B (fun g=>Q g∧g<B) t cs:=by
 intro t
 induction t using T.ind with
 | h t ih =>
  intro cs h
  obtain⟨ka,kn,kc,va,vn,vc,oa,on,oc,ya,yc,css,rfl,hX⟩:=h.out
  refine QX.mk' (css:=css) ⟨hX.nx,rows_tight hX.nx.keys hX.qk,rows_tight hX.nx.vals hX.qv,rows_tight hX.nx.over hX.qo,fun h0=>?_,fun i z hz hi=>ih z hz _ (hX.kq i z hz hi)⟩
  obtain⟨b,off,e,hb⟩:=hX.qy h0
  obtain⟨b2,off2,e2,hb2,_⟩:=hX.nx.cell h0
  rw[e] at e2
  cases e2
  exact⟨b,off,e,hb,hb2⟩
theorem SN.tight {w:World} {Q:Nat->Prop} {t:T} {v:Value} (h:SN w Q t v):SN w (fun g=>Q g∧g<w.heap.size) t v:=by
 obtain⟨ka,kn,kc,va,vn,vc,oa,on,oc,ya,yc,css,rfl,hX⟩:=h
 obtain⟨ka',kn',kc',va',vn',vc',oa',on',oc',ya',yc',css',e,hX'⟩:=(NodeQ.tight t _ hX.mk').out
 cases e
 exact⟨_,_,_,_,_,_,_,_,_,_,_,_,rfl,hX'⟩
set_option maxHeartbeats 8000000 in
theorem mendS3 {w:World} {base:Nat} {Q:Nat->Prop} {ys:List T} {b c m l:Nat} {css:Nat->List Value} {x y:T} (h:OL w base Q ys b c css) (hbs:base<=w.heap.size) (hQ:∀ g,Q g->g<w.heap.size) (hn:ys.length<=1000) (hx:ys[l]?=some x) (hy:ys[l+1]?=some y) (hx4:x.size<=400) (hy4:y.size<=400) (lx:Lens x) (ly:Lens y) (hpre:(m=l∧m=0∧y.size<=2)∨(m=l+1∧x.size<=2∧(m+1=ys.length∨∃ z:T,ys[m+1]?=some z∧z.size<=2))) :
  Calls Tryz.prog 35 #[.slice (some ⟨b,0,none⟩) ys.length c,.int .i64 m] w fun e w'=>∃ v',e=.returned v'∧SL w' (fun g=>Q g∨base<=g) (ys.take l++[glueT x y]++ys.drop (l+2)) v'∧Below base w w':=by
 obtain⟨n,hnn⟩:∃ n,ys.length=n:=⟨_,rfl⟩
 have HNN:Hid (ys.length=n):=hnn
 have hn4:=hn
 rw[hnn] at hn4
 have hj:l+1<n:=by have:=(List.getElem?_eq_some_iff.1 hy).1;omega
 have hcap:n<=c∧c<=maxLen:=by
  rcases h.row.2 with ⟨e,e2⟩ | ⟨g,cap,cur,e,_,_,h3,h4,_⟩
  ·cases e
  ·simp only[Value.slice.injEq] at e;obtain⟨_,_,rfl⟩:=e;exact⟨by omega,h4⟩
 have hcc:=hcap.1
 have hcm:=hcap.2
 unfold maxLen at hcm
 obtain⟨i3,hi3,hs0,hs1,hs2⟩:=info_parts info_l3N
 obtain⟨lfx,pgx,kax,knx,kcx,vax,vnx,vcx,oax,onx,ocx,yax,ynx,ycx,hSx,c6x⟩:=h.at hx
 obtain⟨lfy,pgy,kay,kny,kcy,vay,vny,vcy,oay,ony,ocy,yay,yny,ycy,hSy,c6y⟩:=h.at hy
 have lbw:=h.lt.2
 have lbb:=h.lt.1
 have HOL:Hid (OL w base Q ys b c css):=h
 have HX:Hid (ys[l]?=some x∧ys[l+1]?=some y∧Lens x∧Lens y∧x.size<=400∧y.size<=400):=⟨hx,hy,lx,ly,hx4,hy4⟩
 have HQ0:Hid (∀ g,Q g->g<w.heap.size):=hQ
 rw[hnn]
 obtain⟨ZS,hZS⟩:∃ ZS,ys.take l++[glueT x y]++ys.drop (l+2)=ZS:=⟨_,rfl⟩
 rw[hZS]
 have HZS:Hid (ys.take l++[glueT x y]++ys.drop (l+2)=ZS):=hZS
 clear hZS
 rcases hpre with ⟨hml,hm0,hy2⟩ | ⟨hml,hx2,hz⟩
 ·subst hml
  have hng:¬ ((0:Int)<(m:Int)):=by omega
  have hmn:(m:Int)+1<(n:Int):=by omega
  obtain⟨sy,hsy⟩:∃ sy,y.size=sy:=⟨_,rfl⟩
  have hszy:=size_SN hSy w
  rw[hsy] at hszy
  have hny:¬ ((2:Int)<(sy:Int)):=by omega
  clear hx hy hx4 hy4 lx ly hn hnn hcap hsy hy2 hm0 h hQ
  obtain⟨p0,p1,p2,p3,p4,p5⟩:=c6y
  have c6y:Six w b ((m+1)*6) lfy pgy kay kny kcy vay vny vcy oay ony ocy yay yny ycy:=⟨p0,p1,p2,p3,p4,p5⟩
  go_enter Tryz.func35,Tryz.ntmps35
  go_wp2_with fail
  refine hszy.mono ?_
  rintro e V ⟨rfl,bV⟩
  have sV:=bV.size
  have OLW:Hid (OL V base Q ys b c css):=HOL.out.below bV (fun _ h=>h) HOL.out.off
  have CX:Hid (Six V b (m*6) lfx pgx kax knx kcx vax vnx vcx oax onx ocx yax ynx ycx):=c6x.keep (bV.block b lbw)
  have CY:Hid (Six V b ((m+1)*6) lfy pgy kay kny kcy vay vny vcy oay ony ocy yay yny ycy):=c6y.keep (bV.block b lbw)
  have SX:Hid (SN V Q x (.agg #[.bool lfx,.int .i64 pgx,.slice kax knx kcx,.slice vax vnx vcx,.slice oax onx ocx,.slice yax ynx ycx])):=hSx.below bV
  have SY:Hid (SN V Q y (.agg #[.bool lfy,.int .i64 pgy,.slice kay kny kcy,.slice vay vny vcy,.slice oay ony ocy,.slice yay yny ycy])):=hSy.below bV
  have BW:Hid (Below w.heap.size w V):=bV
  have hbsW:base<=V.heap.size:=by omega
  have HQW:Hid (∀ g,Q g->g<V.heap.size):=fun g hg=>by have:=HQ0.out g hg;omega
  clear p0 p1 p2 p3 p4 p5 c6x c6y hSx hSy hszy bV HOL
  go_upto_region 15 with fail
  have lb:b<V.heap.size:=by have:=OLW.out.lt.2;omega
  obtain⟨W,hWW⟩:∃ W:World,W=V:=⟨_,rfl⟩
  rw[<-hWW] at OLW CX CY SX SY BW lb hbsW HQW ⊢
  clear hWW
  have aE:Below W.heap.size W (W.alloc (.cells #[] 47)):=(Below.refl _ _).alloc (Nat.le_refl _) _
  have rE:=emptyE W 47 6 W.heap.size (Nat.le_refl _)
  have SRC:Hid (∀ V,V.heap[b]?=W.heap[b]?->b<V.heap.size->SrcAt V V.heap.size 6 n (.slice (some ⟨b,0,none⟩) n c) (rowsC css n)):=fun V hV hb=>by
   have h9:=OLW.out.src' hV hb
   rw[HNN.out] at h9
   exact h9 hn4
  have H6:Hid (∀ i,i<n->(css i).length=6):=fun i hi=>OLW.out.six i (by rw[HNN.out];exact hi)
  have lbE:b<(W.alloc (.cells #[] 47)).heap.size:=by simp;omega
  have src2:=(SRC.out _ (aE.block b lb) lbE).fore (k:=m) (by omega)
  rw[(rowsC_part H6.out (by omega)).1] at src2
  have HNX:Hid (∀ v' w4,w4.ownsRow W.heap.size 47 6 v' (0+m) ([]++rowsC css m)->(W.alloc (.cells #[] 47)).grownBy w4 (Value.slice (some ⟨W.heap.size,0,none⟩) 0 0).ownBlock->∃ x y,v'=.slice x m y∧w4.ownsRow W.heap.size 47 6 (.slice x m y) m (rowsC css m)∧Below W.heap.size W w4):=by
   intro v' w4 g1 g2
   rw[Nat.zero_add,List.nil_append] at g1
   obtain⟨x,y,rfl⟩:=own_shape g1
   exact⟨x,y,rfl,g1,aE.grown g2 aE.size (fun g e=>by have:=own_some e;omega)⟩
  go_upto_region 16 with (at_builtin;refine wpList_append_S _ rfl _ _ 45 rfl W.heap.size 47 i3 _ 6 112 Tryz.underlying45 hi3 hs0 hs1 hs2 rfl (by decide) (by decide) _ 0 [] rfl rE (by omega) _ (W.alloc (.cells #[] 47)).heap.size m _ rfl src2 aE.size ?_;intro v' W15 g1 g2 g3;obtain⟨x3,y3,rfl,R3,b15⟩:=HNX.out v' W15 g1 g2)
  clear HNX src2 rE aE g1 g2 g3
  have s15:=b15.size
  have offC:¬ (Q b∨W.heap.size<=b):=fun e=>e.elim OLW.out.off (fun e=>by omega)
  have lb15:b<W15.heap.size:=by omega
  have C6X:Hid (Six W15 b (m*6) lfx pgx kax knx kcx vax vnx vcx oax onx ocx yax ynx ycx):=CX.out.keep (b15.block b lb)
  have C6Y:Hid (Six W15 b ((m+1)*6) lfy pgy kay kny kcy vay vny vcy oay ony ocy yay yny ycy):=CY.out.keep (b15.block b lb)
  have bD:Below W15.heap.size W15 W15.drew:=(Below.refl _ _).drew
  have hgl:=l3Glue_any (((SX.out.below b15).mono (Q':=fun g=>Q g) (fun g h=>h)).below bD) ((SY.out.below b15).below bD) (lens_le HX.out.2.2.1 (by have:=HX.out.2.2.2.2.1;omega)) (lens_le HX.out.2.2.2.1 (by have:=HX.out.2.2.2.2.2;omega))
  have HGL:Hid (Calls Tryz.prog 32 #[.agg #[.bool lfx,.int .i64 pgx,.slice kax knx kcx,.slice vax vnx vcx,.slice oax onx ocx,.slice yax ynx ycx],.agg #[.bool lfy,.int .i64 pgy,.slice kay kny kcy,.slice vay vny vcy,.slice oay ony ocy,.slice yay yny ycy]] W15.drew fun e w7=>∃ lf3 pg3 ka3 kn3 kc3 va3 vn3 vc3 oa3 on3 oc3 ya3 yn3 yc3,e=.returned (.agg #[.bool lf3,.int .i64 pg3,.slice ka3 kn3 kc3,.slice va3 vn3 vc3,.slice oa3 on3 oc3,.slice ya3 yn3 yc3])∧Below W15.heap.size W15 w7∧Hid ((w7.alloc (.cells #[.bool lf3,.int .i64 pg3,.slice ka3 kn3 kc3,.slice va3 vn3 vc3,.slice oa3 on3 oc3,.slice ya3 yn3 yc3] 47)).ownsRow W.heap.size 47 6 (.slice x3 m y3) m (rowsC css m)∧SrcAt (w7.alloc (.cells #[.bool lf3,.int .i64 pg3,.slice ka3 kn3 kc3,.slice va3 vn3 vc3,.slice oa3 on3 oc3,.slice ya3 yn3 yc3] 47)) (w7.alloc (.cells #[.bool lf3,.int .i64 pg3,.slice ka3 kn3 kc3,.slice va3 vn3 vc3,.slice oa3 on3 oc3,.slice ya3 yn3 yc3] 47)).heap.size 6 1 (.slice (some ⟨w7.heap.size,0,none⟩) 1 1) [.bool lf3,.int .i64 pg3,.slice ka3 kn3 kc3,.slice va3 vn3 vc3,.slice oa3 on3 oc3,.slice ya3 yn3 yc3]∧∀ v9 W9,W9.ownsRow W.heap.size 47 6 v9 (m+1) (rowsC css m++[.bool lf3,.int .i64 pg3,.slice ka3 kn3 kc3,.slice va3 vn3 vc3,.slice oa3 on3 oc3,.slice ya3 yn3 yc3])->(w7.alloc (.cells #[.bool lf3,.int .i64 pg3,.slice ka3 kn3 kc3,.slice va3 vn3 vc3,.slice oa3 on3 oc3,.slice ya3 yn3 yc3] 47)).grownBy W9 (Value.slice x3 m y3).ownBlock->(v9.ownBlock=(Value.slice x3 m y3).ownBlock∨∀ g,v9.ownBlock=some g->(w7.alloc (.cells #[.bool lf3,.int .i64 pg3,.slice ka3 kn3 kc3,.slice va3 vn3 vc3,.slice oa3 on3 oc3,.slice ya3 yn3 yc3] 47)).heap.size<=g)->∃ x9 y9,v9=.slice x9 (m+1) y9∧(W9.heap[b]?=W15.heap[b]?∧b<W9.heap.size)∧Hid (Below W.heap.size W W9∧W9.ownsRow W.heap.size 47 6 (.slice x9 (m+1) y9) (m+1) (rowsC css m++[.bool lf3,.int .i64 pg3,.slice ka3 kn3 kc3,.slice va3 vn3 vc3,.slice oa3 on3 oc3,.slice ya3 yn3 yc3])∧SN W9 (fun g=>(Q g∨W15.heap.size<=g)∧(Value.slice x9 (m+1) y9).ownBlock≠some g) (glueT x y) (.agg #[.bool lf3,.int .i64 pg3,.slice ka3 kn3 kc3,.slice va3 vn3 vc3,.slice oa3 on3 oc3,.slice ya3 yn3 yc3])))):=by
   refine hgl.mono ?_
   rintro e w7 ⟨v7,rfl,hS7,hb7'⟩
   have hb7:Below W15.heap.size W15 w7:=bD.trans hb7'
   obtain⟨lf3,pg3,ka3,kn3,kc3,va3,vn3,vc3,oa3,on3,oc3,ya3,yn3,yc3,rfl⟩:=hS7.letters
   have s7:=hb7.size
   have o3:∀ g,(Value.slice x3 m y3).ownBlock=some g->W.heap.size<=g∧g<W15.heap.size:=fun g hg=>R3.lt g hg
   have hal:Below w7.heap.size w7 (w7.alloc (.cells #[.bool lf3,.int .i64 pg3,.slice ka3 kn3 kc3,.slice va3 vn3 vc3,.slice oa3 on3 oc3,.slice ya3 yn3 yc3] 47)):=(Below.refl _ _).alloc (Nat.le_refl _) _
   have R7:=owns_below (owns_below R3 hb7) hal
   have k8:=heap_alloc_new w7 (.cells #[.bool lf3,.int .i64 pg3,.slice ka3 kn3 kc3,.slice va3 vn3 vc3,.slice oa3 on3 oc3,.slice ya3 yn3 yc3] 47)
   have s8:=hal.size
   refine⟨lf3,pg3,ka3,kn3,kc3,va3,vn3,vc3,oa3,on3,oc3,ya3,yn3,yc3,rfl,hb7,R7,src_six k8,fun v9 W9 g1 g2 g3=>?_⟩
   obtain⟨x9,y9,rfl⟩:=own_shape g1
   have s9:=g2.size
   have hbn:¬ (some b=(Value.slice x3 m y3).ownBlock):=fun e=>by have:=o3 b e.symm;omega
   have kb9:=((g2.block b (by omega) hbn).trans (hal.block b (by omega))).trans (hb7.block b lb15)
   have hB9:Below W.heap.size W W9:=b15.trans ((hb7.mono s15).trans ((hal.mono (by omega)).trans ⟨g2.os,g2.tape,g2.output,g2.size,fun g hg=>g2.block g (by omega) (fun e=>by have:=o3 g e.symm;omega)⟩))
   have hlt7:SN w7 (fun g=>(Q g∨W15.heap.size<=g)∧g<w7.heap.size) (glueT x y) (.agg #[.bool lf3,.int .i64 pg3,.slice ka3 kn3 kc3,.slice va3 vn3 vc3,.slice oa3 on3 oc3,.slice ya3 yn3 yc3]):=hS7.tight
   refine⟨x9,y9,rfl,⟨kb9,by omega⟩,hB9,g1,hlt7.keep (fun g hg hl=>?_) (fun g hg=>⟨hg.1,fun e=>?_⟩) (by omega)⟩
   ·exact (g2.block g (by omega) (fun e=>by have:=o3 g e.symm;rcases hg.1 with h9 | h9;(have:=HQW.out g h9;omega);omega)).trans (hal.block g hl)
   ·rcases g3 with e3 | e3
    ·rw[e3] at e;have:=o3 g e;rcases hg.1 with h9 | h9
     ·have:=HQW.out g h9;omega
     ·omega
    ·have:=e3 g e;have:=hg.2;omega
  clear hgl bD
  refine wp_region_noPanic ?_
  refine wp_region_held_drew (S:=(fun w':World=>w'.heap[b]?=W15.heap[b]?∧b<w'.heap.size)) (by kernel_rfl) (⟨rfl,lb15⟩) (fun hHeld=>?_)
  refine tY 0 (.slice x3 m y3) .z (by kernel_rfl) (by rfl) ?_ ‹_› ?_
  ·intro wq hSw;go_simp
  refine tY 1 (.slice (some ⟨b,0,none⟩) n c) (.s .z) (by kernel_rfl) (by rfl) ?_ ‹_› ?_
  ·intro wq hSw;go_simp
  refine tY 2 (.int .i64 (m:Int)) (.s (.s .z)) (by kernel_rfl) (by rfl) ?_ ‹_› ?_
  ·intro wq hSw;go_simp
  refine tY 3 (.pointer (some ⟨b,m*6,none⟩)) (.s (.s (.s .z))) (by kernel_rfl) (by rfl) ?_ ‹_› ?_
  ·intro wq hSw;go_simp<;>(intro hh;omega)
  try simp only[Act.put,q1,q2,q3]
  refine tY 4 (.agg #[.bool lfx,.int .i64 pgx,.slice kax knx kcx,.slice vax vnx vcx,.slice oax onx ocx,.slice yax ynx ycx]) (.s (.s (.s (.s .z)))) (by kernel_rfl) (by rfl) ?_ ‹_› ?_
  ·intro wq hSw;(try dsimp only at hSw);obtain⟨y0,y1,y2,y3,y4,y5⟩:=C6X.out.keep hSw.1;have lq:=hSw.2;go_simp
  refine tY 5 (.slice (some ⟨b,0,none⟩) n c) (.f .z) (by kernel_rfl) (by rfl) ?_ ‹_› ?_
  ·intro wq hSw;go_simp
  refine tY 6 (.int .i64 (m:Int)) (.f (.s .z)) (by kernel_rfl) (by rfl) ?_ ‹_› ?_
  ·intro wq hSw;go_simp
  refine tY 7 (.int .i64 ((m:Int)+1)) (.f (.s (.s .z))) (by kernel_rfl) (by rfl) ?_ ‹_› ?_
  ·intro wq hSw;go_simp<;>(rw[IntKind.wrap_i64];omega)
  try simp only[Act.put,q1,q2,q3]
  refine tY 8 (.pointer (some ⟨b,(m+1)*6,none⟩)) (.f (.s (.s (.s .z)))) (by kernel_rfl) (by rfl) ?_ ‹_› ?_
  ·intro wq hSw;go_simp<;>(intro hh;omega)
  refine tY 9 (.agg #[.bool lfy,.int .i64 pgy,.slice kay kny kcy,.slice vay vny vcy,.slice oay ony ocy,.slice yay yny ycy]) (.f (.s (.s (.s (.s .z))))) (by kernel_rfl) (by rfl) ?_ ‹_› ?_
  ·intro wq hSw;(try dsimp only at hSw);obtain⟨y0,y1,y2,y3,y4,y5⟩:=C6Y.out.keep hSw.1;have lq:=hSw.2;go_simp
  try simp only[Act.put,q1,q2,q3]
  refine wpAnyH_ready (rs:=[10]) (by kernel_rfl) (by simp) ?_
  refine rdA (.t .z) (fun K hK=>?_) AllReadyH.nil
  go_simp
  refine HGL.out.mono ?_
  rintro e w7 ⟨lf3,pg3,ka3,kn3,kc3,va3,vn3,vc3,oa3,on3,oc3,ya3,yn3,yc3,rfl,hb7,hfin⟩
  go_wp2_with fail
  have s7:=hb7.size
  refine hK.out _ _ (⟨hb7.block b lb15,by omega⟩) (fun hHeld=>?_)
  clear hK K
  try simp only[Act.put,q1,q2,q3]
  refine wpAnyH_ready (rs:=[11]) (by kernel_rfl) (by simp) ?_
  refine rdA (.t (.s .z)) (fun K hK=>?_) AllReadyH.nil
  go_simp
  have hal:Below w7.heap.size w7 (w7.alloc (.cells #[.bool lf3,.int .i64 pg3,.slice ka3 kn3 kc3,.slice va3 vn3 vc3,.slice oa3 on3 oc3,.slice ya3 yn3 yc3] 47)):=(Below.refl _ _).alloc (Nat.le_refl _) _
  obtain⟨R7,src7,HAP⟩:=hfin.out
  obtain⟨B8,hB8⟩:∃ B8,w7.heap.size=B8:=⟨_,rfl⟩
  rw[hB8] at src7 ⊢
  generalize w7.alloc (.cells #[.bool lf3,.int .i64 pg3,.slice ka3 kn3 kc3,.slice va3 vn3 vc3,.slice oa3 on3 oc3,.slice ya3 yn3 yc3] 47)=W8 at hal R7 src7 HAP ⊢
  have s8:=hal.size
  refine hK.out _ _ (⟨(hal.block b (by omega)).trans (hb7.block b lb15),by omega⟩) (fun hHeld=>?_)
  clear hK K
  try simp only[Act.put,q1,q2,q3]
  refine wpAnyH_ready (rs:=[12]) (by kernel_rfl) (by simp) ?_
  refine rdA (.t (.s (.s .z))) (fun K hK=>?_) AllReadyH.nil
  refine step_append_S rfl _ _ 45 rfl W.heap.size 47 i3 _ 6 112 Tryz.underlying45 hi3 hs0 hs1 hs2 rfl (by decide) (by decide) _ m _ rfl R7 (by omega) _ W8.heap.size 1 _ rfl src7 (by omega) ?_
  intro v9 W9 g1 g2 g3
  obtain⟨x9,y9,rfl,hk9,hR9⟩:=HAP v9 W9 g1 g2 g3
  clear g1 g2 g3 HAP R7 src7
  refine hK.out _ _ (⟨hk9.1,hk9.2⟩) (fun hHeld=>?_)
  clear hK K
  refine tY 13 (.slice x9 (m+1) y9) (.t (.s (.s (.s .z)))) (by kernel_rfl) (by rfl) ?_ ‹_› ?_
  ·intro wq hSw;go_simp
  try simp only[Act.put,q1,q2,q3]
  refine wpAnyH_done (by kernel_rfl) ?_ _
  refine NoPanic.normal ?_
  obtain⟨hB9,R9,hS9⟩:=hR9.out
  have s9:=hB9.size
  have lb9:=hk9.2
  have kb9:W9.heap[b]?=W.heap[b]?:=hk9.1.trans (b15.block b lb)
  have src9:=(SRC.out W9 kb9 lb9).rest (k:=m+2) (by omega) (by omega)
  rw[(rowsC_part H6.out (by omega)).2] at src9
  have eA:(some (⟨b,0,none⟩:Addr)).map (fun x=>x.add ((m+2)*6))=some ⟨b,(m+2)*6,none⟩:=by simp[Addr.add]
  rw[eA] at src9
  clear eA
  skip
  have HEND:Hid (∀ v' wz,wz.ownsRow W.heap.size 47 6 v' (m+1+(n - (m+2))) (rowsC css m++[.bool lf3,.int .i64 pg3,.slice ka3 kn3 kc3,.slice va3 vn3 vc3,.slice oa3 on3 oc3,.slice ya3 yn3 yc3]++rowsC (fun i=>css (i+(m+2))) (n - (m+2)))->W9.grownBy wz (Value.slice x9 (m+1) y9).ownBlock->∃ ax cx,v'=.slice ax (m+1+(n - (m+2))) cx∧Hid (SL wz (fun g=>Q g∨base<=g) ZS v'∧Below base w wz)):=by
   intro v' wz g1 g2
   rw[<-HZS.out]
   obtain⟨xz,yz,rfl⟩:=own_shape g1
   refine⟨xz,yz,rfl,?_⟩
   have sz:=g2.size
   have o9:∀ g,(Value.slice x9 (m+1) y9).ownBlock=some g->W.heap.size<=g:=fun g hg=>(R9.lt g hg).1
   have eu:[.bool lf3,.int .i64 pg3,.slice ka3 kn3 kc3,.slice va3 vn3 vc3,.slice oa3 on3 oc3,.slice ya3 yn3 yc3]=rowsC (fun _=>[.bool lf3,.int .i64 pg3,.slice ka3 kn3 kc3,.slice va3 vn3 vc3,.slice oa3 on3 oc3,.slice ya3 yn3 yc3]) 1:=by simp[rowsC]
   rw[eu,rowsC_app,rowsC_app] at g1
   have hlen:(ys.take m++[glueT x y]++ys.drop (m+2)).length=m+1+(n - (m+2)):=by simp only[List.length_append,List.length_take,List.length_drop,List.length_cons,List.length_nil,HNN.out];omega
   have hkW:∀ z cs,NodeQ W W.heap.size Q z cs->NodeQ wz wz.heap.size (fun g=>Q g∨base<=g) z cs:=fun z cs hz=>NodeQ.keep (fun g hg hl=>(g2.block g (by omega) (fun e=>by have:=o9 g e.symm;omega)).trans (hB9.block g hl)) (fun g hg=>.inl hg) (by omega) z cs hz
   have hS:NodeQ wz wz.heap.size (fun g=>Q g∨base<=g) (glueT x y) [.bool lf3,.int .i64 pg3,.slice ka3 kn3 kc3,.slice va3 vn3 vc3,.slice oa3 on3 oc3,.slice ya3 yn3 yc3]:=NodeQ.keep (fun g hg hl=>g2.block g hl (fun e=>hg.2 e.symm)) (fun g hg=>hg.1.imp id (fun h=>by omega)) sz _ _ hS9.nodeQ
   have hA1:(ys.take m).length=m:=by rw[List.length_take,HNN.out];omega
   have hA2:(ys.take m++[glueT x y]).length=m+1:=by rw[List.length_append,hA1];rfl
   have hkk:∀ (i:Nat) z,(ys.take m++[glueT x y]++ys.drop (m+2))[i]?=some z->NodeQ wz wz.heap.size (fun g=>Q g∨base<=g) z ((fun i=>if i<m+1 then (fun i=>if i<m then css i else (fun _=>[.bool lf3,.int .i64 pg3,.slice ka3 kn3 kc3,.slice va3 vn3 vc3,.slice oa3 on3 oc3,.slice ya3 yn3 yc3]) (i - m)) i else (fun i=>css (i+(m+2))) (i - (m+1))) i):=by
    refine kids_app (P:=fun z cs=>NodeQ wz wz.heap.size (fun g=>Q g∨base<=g) z cs) (A:=ys.take m++[glueT x y]) (B:=ys.drop (m+2)) (cA:=fun i=>if i<m then css i else (fun _=>[.bool lf3,.int .i64 pg3,.slice ka3 kn3 kc3,.slice va3 vn3 vc3,.slice oa3 on3 oc3,.slice ya3 yn3 yc3]) (i - m)) (cB:=fun i=>css (i+(m+2))) hA2 ?_ ?_
    ·refine kids_app (P:=fun z cs=>NodeQ wz wz.heap.size (fun g=>Q g∨base<=g) z cs) (A:=ys.take m) (B:=[glueT x y]) (cA:=css) (cB:=fun _=>[.bool lf3,.int .i64 pg3,.slice ka3 kn3 kc3,.slice va3 vn3 vc3,.slice oa3 on3 oc3,.slice ya3 yn3 yc3]) hA1 ?_ ?_
     ·intro i z hi
      rw[List.getElem?_take] at hi
      split at hi
      ·exact hkW _ _ (OLW.out.kid i z hi)
      ·cases hi
     ·intro i z hi
      have hz9:z ∈ [glueT x y]:=List.mem_of_getElem? hi
      rw[List.mem_singleton] at hz9
      rw[hz9]
      exact hS
    ·intro i z hi
     rw[List.getElem?_drop,Nat.add_comm] at hi
     exact hkW _ _ (OLW.out.kid _ z hi)
   rw[<-hlen] at g1
   obtain⟨a',c',e',h'⟩:=inn_mk (Q:=fun g=>Q g∨base<=g) (own_lowerT g1 hbsW) (fun g hg=>.inr hg) hkk
   rw[<-hlen]
   exact⟨⟨a',c',_,e',h'⟩,(BW.out.mono hbs).trans ((hB9.mono hbsW).trans ⟨g2.os,g2.tape,g2.output,g2.size,fun g hg=>g2.block g (by omega) (fun e=>by have:=o9 g e.symm;omega)⟩)⟩
  clear hR9 hk9 HGL C6X C6Y hHeld HZS
  go_wp2_with (at_builtin;refine wpList_append_S _ rfl _ _ 45 rfl W.heap.size 47 i3 _ 6 112 Tryz.underlying45 hi3 hs0 hs1 hs2 rfl (by decide) (by decide) _ (m+1) _ rfl R9 (by omega) _ W9.heap.size (n - (m+2)) _ rfl src9 s9 ?_;intro v' wz g1 g2 g3;obtain⟨xz,yz,rfl,HZ⟩:=HEND.out v' wz g1 g2;clear g1 g2 g3)
  all_goals (go_ret;exact⟨_,rfl,HZ.out.1,HZ.out.2⟩)
 ·have hpos:(0:Int)<(m:Int):=by omega
  have hm1:(m:Int) - 1=(l:Int):=by omega
  obtain⟨sx,hsx⟩:∃ sx,x.size=sx:=⟨_,rfl⟩
  have hszx:=size_SN hSx w
  rw[hsx] at hszx
  have hnx:¬ ((2:Int)<(sx:Int)):=by omega
  have hln:l<n:=by omega
  rcases hz with hz | ⟨z,hz,hz2⟩
  ·have hnm:¬ ((m:Int)+1<(n:Int)):=by omega
   clear hx hy hx4 hy4 lx ly hn hnn hcap hsx hx2 h hQ hz hml
   obtain⟨p0,p1,p2,p3,p4,p5⟩:=c6x
   have c6x:Six w b (l*6) lfx pgx kax knx kcx vax vnx vcx oax onx ocx yax ynx ycx:=⟨p0,p1,p2,p3,p4,p5⟩
   go_enter Tryz.func35,Tryz.ntmps35
   go_wp2_with fail
   refine hszx.mono ?_
   rintro e V ⟨rfl,bV⟩
   have sV:=bV.size
   have OLW:Hid (OL V base Q ys b c css):=HOL.out.below bV (fun _ h=>h) HOL.out.off
   have CX:Hid (Six V b (l*6) lfx pgx kax knx kcx vax vnx vcx oax onx ocx yax ynx ycx):=c6x.keep (bV.block b lbw)
   have CY:Hid (Six V b ((l+1)*6) lfy pgy kay kny kcy vay vny vcy oay ony ocy yay yny ycy):=c6y.keep (bV.block b lbw)
   have SX:Hid (SN V Q x (.agg #[.bool lfx,.int .i64 pgx,.slice kax knx kcx,.slice vax vnx vcx,.slice oax onx ocx,.slice yax ynx ycx])):=hSx.below bV
   have SY:Hid (SN V Q y (.agg #[.bool lfy,.int .i64 pgy,.slice kay kny kcy,.slice vay vny vcy,.slice oay ony ocy,.slice yay yny ycy])):=hSy.below bV
   have BW:Hid (Below w.heap.size w V):=bV
   have hbsW:base<=V.heap.size:=by omega
   have HQW:Hid (∀ g,Q g->g<V.heap.size):=fun g hg=>by have:=HQ0.out g hg;omega
   clear p0 p1 p2 p3 p4 p5 c6x c6y hSx hSy hszx bV HOL
   go_upto_region 15 with fail
   have lb:b<V.heap.size:=by have:=OLW.out.lt.2;omega
   obtain⟨W,hWW⟩:∃ W:World,W=V:=⟨_,rfl⟩
   rw[<-hWW] at OLW CX CY SX SY BW lb hbsW HQW ⊢
   clear hWW
   have aE:Below W.heap.size W (W.alloc (.cells #[] 47)):=(Below.refl _ _).alloc (Nat.le_refl _) _
   have rE:=emptyE W 47 6 W.heap.size (Nat.le_refl _)
   have SRC:Hid (∀ V,V.heap[b]?=W.heap[b]?->b<V.heap.size->SrcAt V V.heap.size 6 n (.slice (some ⟨b,0,none⟩) n c) (rowsC css n)):=fun V hV hb=>by
    have h9:=OLW.out.src' hV hb
    rw[HNN.out] at h9
    exact h9 hn4
   have H6:Hid (∀ i,i<n->(css i).length=6):=fun i hi=>OLW.out.six i (by rw[HNN.out];exact hi)
   have lbE:b<(W.alloc (.cells #[] 47)).heap.size:=by simp;omega
   have src2:=(SRC.out _ (aE.block b lb) lbE).fore (k:=l) (by omega)
   rw[(rowsC_part H6.out (by omega)).1] at src2
   have HNX:Hid (∀ v' w4,w4.ownsRow W.heap.size 47 6 v' (0+l) ([]++rowsC css l)->(W.alloc (.cells #[] 47)).grownBy w4 (Value.slice (some ⟨W.heap.size,0,none⟩) 0 0).ownBlock->∃ x y,v'=.slice x l y∧w4.ownsRow W.heap.size 47 6 (.slice x l y) l (rowsC css l)∧Below W.heap.size W w4):=by
    intro v' w4 g1 g2
    rw[Nat.zero_add,List.nil_append] at g1
    obtain⟨x,y,rfl⟩:=own_shape g1
    exact⟨x,y,rfl,g1,aE.grown g2 aE.size (fun g e=>by have:=own_some e;omega)⟩
   go_upto_region 16 with (at_builtin;refine wpList_append_S _ rfl _ _ 45 rfl W.heap.size 47 i3 _ 6 112 Tryz.underlying45 hi3 hs0 hs1 hs2 rfl (by decide) (by decide) _ 0 [] rfl rE (by omega) _ (W.alloc (.cells #[] 47)).heap.size l _ rfl src2 aE.size ?_;intro v' W15 g1 g2 g3;obtain⟨x3,y3,rfl,R3,b15⟩:=HNX.out v' W15 g1 g2)
   clear HNX src2 rE aE g1 g2 g3
   have s15:=b15.size
   have offC:¬ (Q b∨W.heap.size<=b):=fun e=>e.elim OLW.out.off (fun e=>by omega)
   have lb15:b<W15.heap.size:=by omega
   have C6X:Hid (Six W15 b (l*6) lfx pgx kax knx kcx vax vnx vcx oax onx ocx yax ynx ycx):=CX.out.keep (b15.block b lb)
   have C6Y:Hid (Six W15 b ((l+1)*6) lfy pgy kay kny kcy vay vny vcy oay ony ocy yay yny ycy):=CY.out.keep (b15.block b lb)
   have bD:Below W15.heap.size W15 W15.drew:=(Below.refl _ _).drew
   have hgl:=l3Glue_any (((SX.out.below b15).mono (Q':=fun g=>Q g) (fun g h=>h)).below bD) ((SY.out.below b15).below bD) (lens_le HX.out.2.2.1 (by have:=HX.out.2.2.2.2.1;omega)) (lens_le HX.out.2.2.2.1 (by have:=HX.out.2.2.2.2.2;omega))
   have HGL:Hid (Calls Tryz.prog 32 #[.agg #[.bool lfx,.int .i64 pgx,.slice kax knx kcx,.slice vax vnx vcx,.slice oax onx ocx,.slice yax ynx ycx],.agg #[.bool lfy,.int .i64 pgy,.slice kay kny kcy,.slice vay vny vcy,.slice oay ony ocy,.slice yay yny ycy]] W15.drew fun e w7=>∃ lf3 pg3 ka3 kn3 kc3 va3 vn3 vc3 oa3 on3 oc3 ya3 yn3 yc3,e=.returned (.agg #[.bool lf3,.int .i64 pg3,.slice ka3 kn3 kc3,.slice va3 vn3 vc3,.slice oa3 on3 oc3,.slice ya3 yn3 yc3])∧Below W15.heap.size W15 w7∧Hid ((w7.alloc (.cells #[.bool lf3,.int .i64 pg3,.slice ka3 kn3 kc3,.slice va3 vn3 vc3,.slice oa3 on3 oc3,.slice ya3 yn3 yc3] 47)).ownsRow W.heap.size 47 6 (.slice x3 l y3) l (rowsC css l)∧SrcAt (w7.alloc (.cells #[.bool lf3,.int .i64 pg3,.slice ka3 kn3 kc3,.slice va3 vn3 vc3,.slice oa3 on3 oc3,.slice ya3 yn3 yc3] 47)) (w7.alloc (.cells #[.bool lf3,.int .i64 pg3,.slice ka3 kn3 kc3,.slice va3 vn3 vc3,.slice oa3 on3 oc3,.slice ya3 yn3 yc3] 47)).heap.size 6 1 (.slice (some ⟨w7.heap.size,0,none⟩) 1 1) [.bool lf3,.int .i64 pg3,.slice ka3 kn3 kc3,.slice va3 vn3 vc3,.slice oa3 on3 oc3,.slice ya3 yn3 yc3]∧∀ v9 W9,W9.ownsRow W.heap.size 47 6 v9 (l+1) (rowsC css l++[.bool lf3,.int .i64 pg3,.slice ka3 kn3 kc3,.slice va3 vn3 vc3,.slice oa3 on3 oc3,.slice ya3 yn3 yc3])->(w7.alloc (.cells #[.bool lf3,.int .i64 pg3,.slice ka3 kn3 kc3,.slice va3 vn3 vc3,.slice oa3 on3 oc3,.slice ya3 yn3 yc3] 47)).grownBy W9 (Value.slice x3 l y3).ownBlock->(v9.ownBlock=(Value.slice x3 l y3).ownBlock∨∀ g,v9.ownBlock=some g->(w7.alloc (.cells #[.bool lf3,.int .i64 pg3,.slice ka3 kn3 kc3,.slice va3 vn3 vc3,.slice oa3 on3 oc3,.slice ya3 yn3 yc3] 47)).heap.size<=g)->∃ x9 y9,v9=.slice x9 (l+1) y9∧(W9.heap[b]?=W15.heap[b]?∧b<W9.heap.size)∧Hid (Below W.heap.size W W9∧W9.ownsRow W.heap.size 47 6 (.slice x9 (l+1) y9) (l+1) (rowsC css l++[.bool lf3,.int .i64 pg3,.slice ka3 kn3 kc3,.slice va3 vn3 vc3,.slice oa3 on3 oc3,.slice ya3 yn3 yc3])∧SN W9 (fun g=>(Q g∨W15.heap.size<=g)∧(Value.slice x9 (l+1) y9).ownBlock≠some g) (glueT x y) (.agg #[.bool lf3,.int .i64 pg3,.slice ka3 kn3 kc3,.slice va3 vn3 vc3,.slice oa3 on3 oc3,.slice ya3 yn3 yc3])))):=by
    refine hgl.mono ?_
    rintro e w7 ⟨v7,rfl,hS7,hb7'⟩
    have hb7:Below W15.heap.size W15 w7:=bD.trans hb7'
    obtain⟨lf3,pg3,ka3,kn3,kc3,va3,vn3,vc3,oa3,on3,oc3,ya3,yn3,yc3,rfl⟩:=hS7.letters
    have s7:=hb7.size
    have o3:∀ g,(Value.slice x3 l y3).ownBlock=some g->W.heap.size<=g∧g<W15.heap.size:=fun g hg=>R3.lt g hg
    have hal:Below w7.heap.size w7 (w7.alloc (.cells #[.bool lf3,.int .i64 pg3,.slice ka3 kn3 kc3,.slice va3 vn3 vc3,.slice oa3 on3 oc3,.slice ya3 yn3 yc3] 47)):=(Below.refl _ _).alloc (Nat.le_refl _) _
    have R7:=owns_below (owns_below R3 hb7) hal
    have k8:=heap_alloc_new w7 (.cells #[.bool lf3,.int .i64 pg3,.slice ka3 kn3 kc3,.slice va3 vn3 vc3,.slice oa3 on3 oc3,.slice ya3 yn3 yc3] 47)
    have s8:=hal.size
    refine⟨lf3,pg3,ka3,kn3,kc3,va3,vn3,vc3,oa3,on3,oc3,ya3,yn3,yc3,rfl,hb7,R7,src_six k8,fun v9 W9 g1 g2 g3=>?_⟩
    obtain⟨x9,y9,rfl⟩:=own_shape g1
    have s9:=g2.size
    have hbn:¬ (some b=(Value.slice x3 l y3).ownBlock):=fun e=>by have:=o3 b e.symm;omega
    have kb9:=((g2.block b (by omega) hbn).trans (hal.block b (by omega))).trans (hb7.block b lb15)
    have hB9:Below W.heap.size W W9:=b15.trans ((hb7.mono s15).trans ((hal.mono (by omega)).trans ⟨g2.os,g2.tape,g2.output,g2.size,fun g hg=>g2.block g (by omega) (fun e=>by have:=o3 g e.symm;omega)⟩))
    have hlt7:SN w7 (fun g=>(Q g∨W15.heap.size<=g)∧g<w7.heap.size) (glueT x y) (.agg #[.bool lf3,.int .i64 pg3,.slice ka3 kn3 kc3,.slice va3 vn3 vc3,.slice oa3 on3 oc3,.slice ya3 yn3 yc3]):=hS7.tight
    refine⟨x9,y9,rfl,⟨kb9,by omega⟩,hB9,g1,hlt7.keep (fun g hg hl=>?_) (fun g hg=>⟨hg.1,fun e=>?_⟩) (by omega)⟩
    ·exact (g2.block g (by omega) (fun e=>by have:=o3 g e.symm;rcases hg.1 with h9 | h9;(have:=HQW.out g h9;omega);omega)).trans (hal.block g hl)
    ·rcases g3 with e3 | e3
     ·rw[e3] at e;have:=o3 g e;rcases hg.1 with h9 | h9
      ·have:=HQW.out g h9;omega
      ·omega
     ·have:=e3 g e;have:=hg.2;omega
   clear hgl bD
   refine wp_region_noPanic ?_
   refine wp_region_held_drew (S:=(fun w':World=>w'.heap[b]?=W15.heap[b]?∧b<w'.heap.size)) (by kernel_rfl) (⟨rfl,lb15⟩) (fun hHeld=>?_)
   refine tY 0 (.slice x3 l y3) .z (by kernel_rfl) (by rfl) ?_ ‹_› ?_
   ·intro wq hSw;go_simp
   refine tY 1 (.slice (some ⟨b,0,none⟩) n c) (.s .z) (by kernel_rfl) (by rfl) ?_ ‹_› ?_
   ·intro wq hSw;go_simp
   refine tY 2 (.int .i64 (l:Int)) (.s (.s .z)) (by kernel_rfl) (by rfl) ?_ ‹_› ?_
   ·intro wq hSw;go_simp
   refine tY 3 (.pointer (some ⟨b,l*6,none⟩)) (.s (.s (.s .z))) (by kernel_rfl) (by rfl) ?_ ‹_› ?_
   ·intro wq hSw;go_simp<;>(intro hh;omega)
   try simp only[Act.put,q1,q2,q3]
   refine tY 4 (.agg #[.bool lfx,.int .i64 pgx,.slice kax knx kcx,.slice vax vnx vcx,.slice oax onx ocx,.slice yax ynx ycx]) (.s (.s (.s (.s .z)))) (by kernel_rfl) (by rfl) ?_ ‹_› ?_
   ·intro wq hSw;(try dsimp only at hSw);obtain⟨y0,y1,y2,y3,y4,y5⟩:=C6X.out.keep hSw.1;have lq:=hSw.2;go_simp
   refine tY 5 (.slice (some ⟨b,0,none⟩) n c) (.f .z) (by kernel_rfl) (by rfl) ?_ ‹_› ?_
   ·intro wq hSw;go_simp
   refine tY 6 (.int .i64 (l:Int)) (.f (.s .z)) (by kernel_rfl) (by rfl) ?_ ‹_› ?_
   ·intro wq hSw;go_simp
   refine tY 7 (.int .i64 ((l:Int)+1)) (.f (.s (.s .z))) (by kernel_rfl) (by rfl) ?_ ‹_› ?_
   ·intro wq hSw;go_simp<;>(rw[IntKind.wrap_i64];omega)
   try simp only[Act.put,q1,q2,q3]
   refine tY 8 (.pointer (some ⟨b,(l+1)*6,none⟩)) (.f (.s (.s (.s .z)))) (by kernel_rfl) (by rfl) ?_ ‹_› ?_
   ·intro wq hSw;go_simp<;>(intro hh;omega)
   refine tY 9 (.agg #[.bool lfy,.int .i64 pgy,.slice kay kny kcy,.slice vay vny vcy,.slice oay ony ocy,.slice yay yny ycy]) (.f (.s (.s (.s (.s .z))))) (by kernel_rfl) (by rfl) ?_ ‹_› ?_
   ·intro wq hSw;(try dsimp only at hSw);obtain⟨y0,y1,y2,y3,y4,y5⟩:=C6Y.out.keep hSw.1;have lq:=hSw.2;go_simp
   try simp only[Act.put,q1,q2,q3]
   refine wpAnyH_ready (rs:=[10]) (by kernel_rfl) (by simp) ?_
   refine rdA (.t .z) (fun K hK=>?_) AllReadyH.nil
   go_simp
   refine HGL.out.mono ?_
   rintro e w7 ⟨lf3,pg3,ka3,kn3,kc3,va3,vn3,vc3,oa3,on3,oc3,ya3,yn3,yc3,rfl,hb7,hfin⟩
   go_wp2_with fail
   have s7:=hb7.size
   refine hK.out _ _ (⟨hb7.block b lb15,by omega⟩) (fun hHeld=>?_)
   clear hK K
   try simp only[Act.put,q1,q2,q3]
   refine wpAnyH_ready (rs:=[11]) (by kernel_rfl) (by simp) ?_
   refine rdA (.t (.s .z)) (fun K hK=>?_) AllReadyH.nil
   go_simp
   have hal:Below w7.heap.size w7 (w7.alloc (.cells #[.bool lf3,.int .i64 pg3,.slice ka3 kn3 kc3,.slice va3 vn3 vc3,.slice oa3 on3 oc3,.slice ya3 yn3 yc3] 47)):=(Below.refl _ _).alloc (Nat.le_refl _) _
   obtain⟨R7,src7,HAP⟩:=hfin.out
   obtain⟨B8,hB8⟩:∃ B8,w7.heap.size=B8:=⟨_,rfl⟩
   rw[hB8] at src7 ⊢
   generalize w7.alloc (.cells #[.bool lf3,.int .i64 pg3,.slice ka3 kn3 kc3,.slice va3 vn3 vc3,.slice oa3 on3 oc3,.slice ya3 yn3 yc3] 47)=W8 at hal R7 src7 HAP ⊢
   have s8:=hal.size
   refine hK.out _ _ (⟨(hal.block b (by omega)).trans (hb7.block b lb15),by omega⟩) (fun hHeld=>?_)
   clear hK K
   try simp only[Act.put,q1,q2,q3]
   refine wpAnyH_ready (rs:=[12]) (by kernel_rfl) (by simp) ?_
   refine rdA (.t (.s (.s .z))) (fun K hK=>?_) AllReadyH.nil
   refine step_append_S rfl _ _ 45 rfl W.heap.size 47 i3 _ 6 112 Tryz.underlying45 hi3 hs0 hs1 hs2 rfl (by decide) (by decide) _ l _ rfl R7 (by omega) _ W8.heap.size 1 _ rfl src7 (by omega) ?_
   intro v9 W9 g1 g2 g3
   obtain⟨x9,y9,rfl,hk9,hR9⟩:=HAP v9 W9 g1 g2 g3
   clear g1 g2 g3 HAP R7 src7
   refine hK.out _ _ (⟨hk9.1,hk9.2⟩) (fun hHeld=>?_)
   clear hK K
   refine tY 13 (.slice x9 (l+1) y9) (.t (.s (.s (.s .z)))) (by kernel_rfl) (by rfl) ?_ ‹_› ?_
   ·intro wq hSw;go_simp
   try simp only[Act.put,q1,q2,q3]
   refine wpAnyH_done (by kernel_rfl) ?_ _
   refine NoPanic.normal ?_
   obtain⟨hB9,R9,hS9⟩:=hR9.out
   have s9:=hB9.size
   have lb9:=hk9.2
   have kb9:W9.heap[b]?=W.heap[b]?:=hk9.1.trans (b15.block b lb)
   have src9:=(SRC.out W9 kb9 lb9).rest (k:=l+2) (by omega) (by omega)
   rw[(rowsC_part H6.out (by omega)).2] at src9
   have eA:(some (⟨b,0,none⟩:Addr)).map (fun x=>x.add ((l+2)*6))=some ⟨b,(l+2)*6,none⟩:=by simp[Addr.add]
   rw[eA] at src9
   clear eA
   skip
   have HEND:Hid (∀ v' wz,wz.ownsRow W.heap.size 47 6 v' (l+1+(n - (l+2))) (rowsC css l++[.bool lf3,.int .i64 pg3,.slice ka3 kn3 kc3,.slice va3 vn3 vc3,.slice oa3 on3 oc3,.slice ya3 yn3 yc3]++rowsC (fun i=>css (i+(l+2))) (n - (l+2)))->W9.grownBy wz (Value.slice x9 (l+1) y9).ownBlock->∃ ax cx,v'=.slice ax (l+1+(n - (l+2))) cx∧Hid (SL wz (fun g=>Q g∨base<=g) ZS v'∧Below base w wz)):=by
    intro v' wz g1 g2
    rw[<-HZS.out]
    obtain⟨xz,yz,rfl⟩:=own_shape g1
    refine⟨xz,yz,rfl,?_⟩
    have sz:=g2.size
    have o9:∀ g,(Value.slice x9 (l+1) y9).ownBlock=some g->W.heap.size<=g:=fun g hg=>(R9.lt g hg).1
    have eu:[.bool lf3,.int .i64 pg3,.slice ka3 kn3 kc3,.slice va3 vn3 vc3,.slice oa3 on3 oc3,.slice ya3 yn3 yc3]=rowsC (fun _=>[.bool lf3,.int .i64 pg3,.slice ka3 kn3 kc3,.slice va3 vn3 vc3,.slice oa3 on3 oc3,.slice ya3 yn3 yc3]) 1:=by simp[rowsC]
    rw[eu,rowsC_app,rowsC_app] at g1
    have hlen:(ys.take l++[glueT x y]++ys.drop (l+2)).length=l+1+(n - (l+2)):=by simp only[List.length_append,List.length_take,List.length_drop,List.length_cons,List.length_nil,HNN.out];omega
    have hkW:∀ z cs,NodeQ W W.heap.size Q z cs->NodeQ wz wz.heap.size (fun g=>Q g∨base<=g) z cs:=fun z cs hz=>NodeQ.keep (fun g hg hl=>(g2.block g (by omega) (fun e=>by have:=o9 g e.symm;omega)).trans (hB9.block g hl)) (fun g hg=>.inl hg) (by omega) z cs hz
    have hS:NodeQ wz wz.heap.size (fun g=>Q g∨base<=g) (glueT x y) [.bool lf3,.int .i64 pg3,.slice ka3 kn3 kc3,.slice va3 vn3 vc3,.slice oa3 on3 oc3,.slice ya3 yn3 yc3]:=NodeQ.keep (fun g hg hl=>g2.block g hl (fun e=>hg.2 e.symm)) (fun g hg=>hg.1.imp id (fun h=>by omega)) sz _ _ hS9.nodeQ
    have hA1:(ys.take l).length=l:=by rw[List.length_take,HNN.out];omega
    have hA2:(ys.take l++[glueT x y]).length=l+1:=by rw[List.length_append,hA1];rfl
    have hkk:∀ (i:Nat) z,(ys.take l++[glueT x y]++ys.drop (l+2))[i]?=some z->NodeQ wz wz.heap.size (fun g=>Q g∨base<=g) z ((fun i=>if i<l+1 then (fun i=>if i<l then css i else (fun _=>[.bool lf3,.int .i64 pg3,.slice ka3 kn3 kc3,.slice va3 vn3 vc3,.slice oa3 on3 oc3,.slice ya3 yn3 yc3]) (i - l)) i else (fun i=>css (i+(l+2))) (i - (l+1))) i):=by
     refine kids_app (P:=fun z cs=>NodeQ wz wz.heap.size (fun g=>Q g∨base<=g) z cs) (A:=ys.take l++[glueT x y]) (B:=ys.drop (l+2)) (cA:=fun i=>if i<l then css i else (fun _=>[.bool lf3,.int .i64 pg3,.slice ka3 kn3 kc3,.slice va3 vn3 vc3,.slice oa3 on3 oc3,.slice ya3 yn3 yc3]) (i - l)) (cB:=fun i=>css (i+(l+2))) hA2 ?_ ?_
     ·refine kids_app (P:=fun z cs=>NodeQ wz wz.heap.size (fun g=>Q g∨base<=g) z cs) (A:=ys.take l) (B:=[glueT x y]) (cA:=css) (cB:=fun _=>[.bool lf3,.int .i64 pg3,.slice ka3 kn3 kc3,.slice va3 vn3 vc3,.slice oa3 on3 oc3,.slice ya3 yn3 yc3]) hA1 ?_ ?_
      ·intro i z hi
       rw[List.getElem?_take] at hi
       split at hi
       ·exact hkW _ _ (OLW.out.kid i z hi)
       ·cases hi
      ·intro i z hi
       have hz9:z ∈ [glueT x y]:=List.mem_of_getElem? hi
       rw[List.mem_singleton] at hz9
       rw[hz9]
       exact hS
     ·intro i z hi
      rw[List.getElem?_drop,Nat.add_comm] at hi
      exact hkW _ _ (OLW.out.kid _ z hi)
    rw[<-hlen] at g1
    obtain⟨a',c',e',h'⟩:=inn_mk (Q:=fun g=>Q g∨base<=g) (own_lowerT g1 hbsW) (fun g hg=>.inr hg) hkk
    rw[<-hlen]
    exact⟨⟨a',c',_,e',h'⟩,(BW.out.mono hbs).trans ((hB9.mono hbsW).trans ⟨g2.os,g2.tape,g2.output,g2.size,fun g hg=>g2.block g (by omega) (fun e=>by have:=o9 g e.symm;omega)⟩)⟩
   clear hR9 hk9 HGL C6X C6Y hHeld HZS
   go_wp2_with (at_builtin;refine wpList_append_S _ rfl _ _ 45 rfl W.heap.size 47 i3 _ 6 112 Tryz.underlying45 hi3 hs0 hs1 hs2 rfl (by decide) (by decide) _ (l+1) _ rfl R9 (by omega) _ W9.heap.size (n - (l+2)) _ rfl src9 s9 ?_;intro v' wz g1 g2 g3;obtain⟨xz,yz,rfl,HZ⟩:=HEND.out v' wz g1 g2;clear g1 g2 g3)
   all_goals (go_ret;exact⟨_,rfl,HZ.out.1,HZ.out.2⟩)
  ·obtain⟨lfz,pgz,kaz,knz,kcz,vaz,vnz,vcz,oaz,onz,ocz,yaz,ynz,ycz,hSz,c6z⟩:=h.at hz
   obtain⟨sz,hsz⟩:∃ sz,z.size=sz:=⟨_,rfl⟩
   have HSZ:Hid (∀ W,Calls Tryz.prog 34 #[.agg #[.bool lfz,.int .i64 pgz,.slice kaz knz kcz,.slice vaz vnz vcz,.slice oaz onz ocz,.slice yaz ynz ycz]] W fun e w'=>e=.returned (.int .i64 sz)∧Below W.heap.size W w'):=fun W=>by have:=size_SN hSz W;rw[hsz] at this;exact this
   have hnz:¬ ((2:Int)<(sz:Int)):=by omega
   have hmn:(m:Int)+1<(n:Int):=by have:=(List.getElem?_eq_some_iff.1 hz).1;omega
   clear hx hy hx4 hy4 lx ly hn hnn hcap hsx hx2 h hQ hz hsz hz2 hSz hml
   obtain⟨p0,p1,p2,p3,p4,p5⟩:=c6x
   have c6x:Six w b (l*6) lfx pgx kax knx kcx vax vnx vcx oax onx ocx yax ynx ycx:=⟨p0,p1,p2,p3,p4,p5⟩
   go_enter Tryz.func35,Tryz.ntmps35
   go_wp2_with fail
   refine hszx.mono ?_
   rintro e V0 ⟨rfl,bV0⟩
   have sV0:=bV0.size
   have lbV0:b<V0.heap.size:=by omega
   clear p0 p1 p2 p3 p4 p5
   obtain⟨p0,p1,p2,p3,p4,p5⟩:=c6z.keep (bV0.block b lbw)
   go_wp2_with fail
   refine (HSZ.out V0).mono ?_
   rintro e V ⟨rfl,bV1⟩
   have bV:=bV0.trans (bV1.mono sV0)
   have sV:=bV.size
   have OLW:Hid (OL V base Q ys b c css):=HOL.out.below bV (fun _ h=>h) HOL.out.off
   have CX:Hid (Six V b (l*6) lfx pgx kax knx kcx vax vnx vcx oax onx ocx yax ynx ycx):=c6x.keep (bV.block b lbw)
   have CY:Hid (Six V b ((l+1)*6) lfy pgy kay kny kcy vay vny vcy oay ony ocy yay yny ycy):=c6y.keep (bV.block b lbw)
   have SX:Hid (SN V Q x (.agg #[.bool lfx,.int .i64 pgx,.slice kax knx kcx,.slice vax vnx vcx,.slice oax onx ocx,.slice yax ynx ycx])):=hSx.below bV
   have SY:Hid (SN V Q y (.agg #[.bool lfy,.int .i64 pgy,.slice kay kny kcy,.slice vay vny vcy,.slice oay ony ocy,.slice yay yny ycy])):=hSy.below bV
   have BW:Hid (Below w.heap.size w V):=bV
   have hbsW:base<=V.heap.size:=by omega
   have HQW:Hid (∀ g,Q g->g<V.heap.size):=fun g hg=>by have:=HQ0.out g hg;omega
   clear p0 p1 p2 p3 p4 p5 c6x c6y c6z hSx hSy hszx bV0 bV1 bV HOL HSZ
   go_upto_region 15 with fail
   have lb:b<V.heap.size:=by have:=OLW.out.lt.2;omega
   obtain⟨W,hWW⟩:∃ W:World,W=V:=⟨_,rfl⟩
   rw[<-hWW] at OLW CX CY SX SY BW lb hbsW HQW ⊢
   clear hWW
   have aE:Below W.heap.size W (W.alloc (.cells #[] 47)):=(Below.refl _ _).alloc (Nat.le_refl _) _
   have rE:=emptyE W 47 6 W.heap.size (Nat.le_refl _)
   have SRC:Hid (∀ V,V.heap[b]?=W.heap[b]?->b<V.heap.size->SrcAt V V.heap.size 6 n (.slice (some ⟨b,0,none⟩) n c) (rowsC css n)):=fun V hV hb=>by
    have h9:=OLW.out.src' hV hb
    rw[HNN.out] at h9
    exact h9 hn4
   have H6:Hid (∀ i,i<n->(css i).length=6):=fun i hi=>OLW.out.six i (by rw[HNN.out];exact hi)
   have lbE:b<(W.alloc (.cells #[] 47)).heap.size:=by simp;omega
   have src2:=(SRC.out _ (aE.block b lb) lbE).fore (k:=l) (by omega)
   rw[(rowsC_part H6.out (by omega)).1] at src2
   have HNX:Hid (∀ v' w4,w4.ownsRow W.heap.size 47 6 v' (0+l) ([]++rowsC css l)->(W.alloc (.cells #[] 47)).grownBy w4 (Value.slice (some ⟨W.heap.size,0,none⟩) 0 0).ownBlock->∃ x y,v'=.slice x l y∧w4.ownsRow W.heap.size 47 6 (.slice x l y) l (rowsC css l)∧Below W.heap.size W w4):=by
    intro v' w4 g1 g2
    rw[Nat.zero_add,List.nil_append] at g1
    obtain⟨x,y,rfl⟩:=own_shape g1
    exact⟨x,y,rfl,g1,aE.grown g2 aE.size (fun g e=>by have:=own_some e;omega)⟩
   go_upto_region 16 with (at_builtin;refine wpList_append_S _ rfl _ _ 45 rfl W.heap.size 47 i3 _ 6 112 Tryz.underlying45 hi3 hs0 hs1 hs2 rfl (by decide) (by decide) _ 0 [] rfl rE (by omega) _ (W.alloc (.cells #[] 47)).heap.size l _ rfl src2 aE.size ?_;intro v' W15 g1 g2 g3;obtain⟨x3,y3,rfl,R3,b15⟩:=HNX.out v' W15 g1 g2)
   clear HNX src2 rE aE g1 g2 g3
   have s15:=b15.size
   have offC:¬ (Q b∨W.heap.size<=b):=fun e=>e.elim OLW.out.off (fun e=>by omega)
   have lb15:b<W15.heap.size:=by omega
   have C6X:Hid (Six W15 b (l*6) lfx pgx kax knx kcx vax vnx vcx oax onx ocx yax ynx ycx):=CX.out.keep (b15.block b lb)
   have C6Y:Hid (Six W15 b ((l+1)*6) lfy pgy kay kny kcy vay vny vcy oay ony ocy yay yny ycy):=CY.out.keep (b15.block b lb)
   have bD:Below W15.heap.size W15 W15.drew:=(Below.refl _ _).drew
   have hgl:=l3Glue_any (((SX.out.below b15).mono (Q':=fun g=>Q g) (fun g h=>h)).below bD) ((SY.out.below b15).below bD) (lens_le HX.out.2.2.1 (by have:=HX.out.2.2.2.2.1;omega)) (lens_le HX.out.2.2.2.1 (by have:=HX.out.2.2.2.2.2;omega))
   have HGL:Hid (Calls Tryz.prog 32 #[.agg #[.bool lfx,.int .i64 pgx,.slice kax knx kcx,.slice vax vnx vcx,.slice oax onx ocx,.slice yax ynx ycx],.agg #[.bool lfy,.int .i64 pgy,.slice kay kny kcy,.slice vay vny vcy,.slice oay ony ocy,.slice yay yny ycy]] W15.drew fun e w7=>∃ lf3 pg3 ka3 kn3 kc3 va3 vn3 vc3 oa3 on3 oc3 ya3 yn3 yc3,e=.returned (.agg #[.bool lf3,.int .i64 pg3,.slice ka3 kn3 kc3,.slice va3 vn3 vc3,.slice oa3 on3 oc3,.slice ya3 yn3 yc3])∧Below W15.heap.size W15 w7∧Hid ((w7.alloc (.cells #[.bool lf3,.int .i64 pg3,.slice ka3 kn3 kc3,.slice va3 vn3 vc3,.slice oa3 on3 oc3,.slice ya3 yn3 yc3] 47)).ownsRow W.heap.size 47 6 (.slice x3 l y3) l (rowsC css l)∧SrcAt (w7.alloc (.cells #[.bool lf3,.int .i64 pg3,.slice ka3 kn3 kc3,.slice va3 vn3 vc3,.slice oa3 on3 oc3,.slice ya3 yn3 yc3] 47)) (w7.alloc (.cells #[.bool lf3,.int .i64 pg3,.slice ka3 kn3 kc3,.slice va3 vn3 vc3,.slice oa3 on3 oc3,.slice ya3 yn3 yc3] 47)).heap.size 6 1 (.slice (some ⟨w7.heap.size,0,none⟩) 1 1) [.bool lf3,.int .i64 pg3,.slice ka3 kn3 kc3,.slice va3 vn3 vc3,.slice oa3 on3 oc3,.slice ya3 yn3 yc3]∧∀ v9 W9,W9.ownsRow W.heap.size 47 6 v9 (l+1) (rowsC css l++[.bool lf3,.int .i64 pg3,.slice ka3 kn3 kc3,.slice va3 vn3 vc3,.slice oa3 on3 oc3,.slice ya3 yn3 yc3])->(w7.alloc (.cells #[.bool lf3,.int .i64 pg3,.slice ka3 kn3 kc3,.slice va3 vn3 vc3,.slice oa3 on3 oc3,.slice ya3 yn3 yc3] 47)).grownBy W9 (Value.slice x3 l y3).ownBlock->(v9.ownBlock=(Value.slice x3 l y3).ownBlock∨∀ g,v9.ownBlock=some g->(w7.alloc (.cells #[.bool lf3,.int .i64 pg3,.slice ka3 kn3 kc3,.slice va3 vn3 vc3,.slice oa3 on3 oc3,.slice ya3 yn3 yc3] 47)).heap.size<=g)->∃ x9 y9,v9=.slice x9 (l+1) y9∧(W9.heap[b]?=W15.heap[b]?∧b<W9.heap.size)∧Hid (Below W.heap.size W W9∧W9.ownsRow W.heap.size 47 6 (.slice x9 (l+1) y9) (l+1) (rowsC css l++[.bool lf3,.int .i64 pg3,.slice ka3 kn3 kc3,.slice va3 vn3 vc3,.slice oa3 on3 oc3,.slice ya3 yn3 yc3])∧SN W9 (fun g=>(Q g∨W15.heap.size<=g)∧(Value.slice x9 (l+1) y9).ownBlock≠some g) (glueT x y) (.agg #[.bool lf3,.int .i64 pg3,.slice ka3 kn3 kc3,.slice va3 vn3 vc3,.slice oa3 on3 oc3,.slice ya3 yn3 yc3])))):=by
    refine hgl.mono ?_
    rintro e w7 ⟨v7,rfl,hS7,hb7'⟩
    have hb7:Below W15.heap.size W15 w7:=bD.trans hb7'
    obtain⟨lf3,pg3,ka3,kn3,kc3,va3,vn3,vc3,oa3,on3,oc3,ya3,yn3,yc3,rfl⟩:=hS7.letters
    have s7:=hb7.size
    have o3:∀ g,(Value.slice x3 l y3).ownBlock=some g->W.heap.size<=g∧g<W15.heap.size:=fun g hg=>R3.lt g hg
    have hal:Below w7.heap.size w7 (w7.alloc (.cells #[.bool lf3,.int .i64 pg3,.slice ka3 kn3 kc3,.slice va3 vn3 vc3,.slice oa3 on3 oc3,.slice ya3 yn3 yc3] 47)):=(Below.refl _ _).alloc (Nat.le_refl _) _
    have R7:=owns_below (owns_below R3 hb7) hal
    have k8:=heap_alloc_new w7 (.cells #[.bool lf3,.int .i64 pg3,.slice ka3 kn3 kc3,.slice va3 vn3 vc3,.slice oa3 on3 oc3,.slice ya3 yn3 yc3] 47)
    have s8:=hal.size
    refine⟨lf3,pg3,ka3,kn3,kc3,va3,vn3,vc3,oa3,on3,oc3,ya3,yn3,yc3,rfl,hb7,R7,src_six k8,fun v9 W9 g1 g2 g3=>?_⟩
    obtain⟨x9,y9,rfl⟩:=own_shape g1
    have s9:=g2.size
    have hbn:¬ (some b=(Value.slice x3 l y3).ownBlock):=fun e=>by have:=o3 b e.symm;omega
    have kb9:=((g2.block b (by omega) hbn).trans (hal.block b (by omega))).trans (hb7.block b lb15)
    have hB9:Below W.heap.size W W9:=b15.trans ((hb7.mono s15).trans ((hal.mono (by omega)).trans ⟨g2.os,g2.tape,g2.output,g2.size,fun g hg=>g2.block g (by omega) (fun e=>by have:=o3 g e.symm;omega)⟩))
    have hlt7:SN w7 (fun g=>(Q g∨W15.heap.size<=g)∧g<w7.heap.size) (glueT x y) (.agg #[.bool lf3,.int .i64 pg3,.slice ka3 kn3 kc3,.slice va3 vn3 vc3,.slice oa3 on3 oc3,.slice ya3 yn3 yc3]):=hS7.tight
    refine⟨x9,y9,rfl,⟨kb9,by omega⟩,hB9,g1,hlt7.keep (fun g hg hl=>?_) (fun g hg=>⟨hg.1,fun e=>?_⟩) (by omega)⟩
    ·exact (g2.block g (by omega) (fun e=>by have:=o3 g e.symm;rcases hg.1 with h9 | h9;(have:=HQW.out g h9;omega);omega)).trans (hal.block g hl)
    ·rcases g3 with e3 | e3
     ·rw[e3] at e;have:=o3 g e;rcases hg.1 with h9 | h9
      ·have:=HQW.out g h9;omega
      ·omega
     ·have:=e3 g e;have:=hg.2;omega
   clear hgl bD
   refine wp_region_noPanic ?_
   refine wp_region_held_drew (S:=(fun w':World=>w'.heap[b]?=W15.heap[b]?∧b<w'.heap.size)) (by kernel_rfl) (⟨rfl,lb15⟩) (fun hHeld=>?_)
   refine tY 0 (.slice x3 l y3) .z (by kernel_rfl) (by rfl) ?_ ‹_› ?_
   ·intro wq hSw;go_simp
   refine tY 1 (.slice (some ⟨b,0,none⟩) n c) (.s .z) (by kernel_rfl) (by rfl) ?_ ‹_› ?_
   ·intro wq hSw;go_simp
   refine tY 2 (.int .i64 (l:Int)) (.s (.s .z)) (by kernel_rfl) (by rfl) ?_ ‹_› ?_
   ·intro wq hSw;go_simp
   refine tY 3 (.pointer (some ⟨b,l*6,none⟩)) (.s (.s (.s .z))) (by kernel_rfl) (by rfl) ?_ ‹_› ?_
   ·intro wq hSw;go_simp<;>(intro hh;omega)
   try simp only[Act.put,q1,q2,q3]
   refine tY 4 (.agg #[.bool lfx,.int .i64 pgx,.slice kax knx kcx,.slice vax vnx vcx,.slice oax onx ocx,.slice yax ynx ycx]) (.s (.s (.s (.s .z)))) (by kernel_rfl) (by rfl) ?_ ‹_› ?_
   ·intro wq hSw;(try dsimp only at hSw);obtain⟨y0,y1,y2,y3,y4,y5⟩:=C6X.out.keep hSw.1;have lq:=hSw.2;go_simp
   refine tY 5 (.slice (some ⟨b,0,none⟩) n c) (.f .z) (by kernel_rfl) (by rfl) ?_ ‹_› ?_
   ·intro wq hSw;go_simp
   refine tY 6 (.int .i64 (l:Int)) (.f (.s .z)) (by kernel_rfl) (by rfl) ?_ ‹_› ?_
   ·intro wq hSw;go_simp
   refine tY 7 (.int .i64 ((l:Int)+1)) (.f (.s (.s .z))) (by kernel_rfl) (by rfl) ?_ ‹_› ?_
   ·intro wq hSw;go_simp<;>(rw[IntKind.wrap_i64];omega)
   try simp only[Act.put,q1,q2,q3]
   refine tY 8 (.pointer (some ⟨b,(l+1)*6,none⟩)) (.f (.s (.s (.s .z)))) (by kernel_rfl) (by rfl) ?_ ‹_› ?_
   ·intro wq hSw;go_simp<;>(intro hh;omega)
   refine tY 9 (.agg #[.bool lfy,.int .i64 pgy,.slice kay kny kcy,.slice vay vny vcy,.slice oay ony ocy,.slice yay yny ycy]) (.f (.s (.s (.s (.s .z))))) (by kernel_rfl) (by rfl) ?_ ‹_› ?_
   ·intro wq hSw;(try dsimp only at hSw);obtain⟨y0,y1,y2,y3,y4,y5⟩:=C6Y.out.keep hSw.1;have lq:=hSw.2;go_simp
   try simp only[Act.put,q1,q2,q3]
   refine wpAnyH_ready (rs:=[10]) (by kernel_rfl) (by simp) ?_
   refine rdA (.t .z) (fun K hK=>?_) AllReadyH.nil
   go_simp
   refine HGL.out.mono ?_
   rintro e w7 ⟨lf3,pg3,ka3,kn3,kc3,va3,vn3,vc3,oa3,on3,oc3,ya3,yn3,yc3,rfl,hb7,hfin⟩
   go_wp2_with fail
   have s7:=hb7.size
   refine hK.out _ _ (⟨hb7.block b lb15,by omega⟩) (fun hHeld=>?_)
   clear hK K
   try simp only[Act.put,q1,q2,q3]
   refine wpAnyH_ready (rs:=[11]) (by kernel_rfl) (by simp) ?_
   refine rdA (.t (.s .z)) (fun K hK=>?_) AllReadyH.nil
   go_simp
   have hal:Below w7.heap.size w7 (w7.alloc (.cells #[.bool lf3,.int .i64 pg3,.slice ka3 kn3 kc3,.slice va3 vn3 vc3,.slice oa3 on3 oc3,.slice ya3 yn3 yc3] 47)):=(Below.refl _ _).alloc (Nat.le_refl _) _
   obtain⟨R7,src7,HAP⟩:=hfin.out
   obtain⟨B8,hB8⟩:∃ B8,w7.heap.size=B8:=⟨_,rfl⟩
   rw[hB8] at src7 ⊢
   generalize w7.alloc (.cells #[.bool lf3,.int .i64 pg3,.slice ka3 kn3 kc3,.slice va3 vn3 vc3,.slice oa3 on3 oc3,.slice ya3 yn3 yc3] 47)=W8 at hal R7 src7 HAP ⊢
   have s8:=hal.size
   refine hK.out _ _ (⟨(hal.block b (by omega)).trans (hb7.block b lb15),by omega⟩) (fun hHeld=>?_)
   clear hK K
   try simp only[Act.put,q1,q2,q3]
   refine wpAnyH_ready (rs:=[12]) (by kernel_rfl) (by simp) ?_
   refine rdA (.t (.s (.s .z))) (fun K hK=>?_) AllReadyH.nil
   refine step_append_S rfl _ _ 45 rfl W.heap.size 47 i3 _ 6 112 Tryz.underlying45 hi3 hs0 hs1 hs2 rfl (by decide) (by decide) _ l _ rfl R7 (by omega) _ W8.heap.size 1 _ rfl src7 (by omega) ?_
   intro v9 W9 g1 g2 g3
   obtain⟨x9,y9,rfl,hk9,hR9⟩:=HAP v9 W9 g1 g2 g3
   clear g1 g2 g3 HAP R7 src7
   refine hK.out _ _ (⟨hk9.1,hk9.2⟩) (fun hHeld=>?_)
   clear hK K
   refine tY 13 (.slice x9 (l+1) y9) (.t (.s (.s (.s .z)))) (by kernel_rfl) (by rfl) ?_ ‹_› ?_
   ·intro wq hSw;go_simp
   try simp only[Act.put,q1,q2,q3]
   refine wpAnyH_done (by kernel_rfl) ?_ _
   refine NoPanic.normal ?_
   obtain⟨hB9,R9,hS9⟩:=hR9.out
   have s9:=hB9.size
   have lb9:=hk9.2
   have kb9:W9.heap[b]?=W.heap[b]?:=hk9.1.trans (b15.block b lb)
   have src9:=(SRC.out W9 kb9 lb9).rest (k:=l+2) (by omega) (by omega)
   rw[(rowsC_part H6.out (by omega)).2] at src9
   have eA:(some (⟨b,0,none⟩:Addr)).map (fun x=>x.add ((l+2)*6))=some ⟨b,(l+2)*6,none⟩:=by simp[Addr.add]
   rw[eA] at src9
   clear eA
   have hcl:¬ c=l+2:=by omega
   rw[if_neg hcl] at src9
   have HEND:Hid (∀ v' wz,wz.ownsRow W.heap.size 47 6 v' (l+1+(n - (l+2))) (rowsC css l++[.bool lf3,.int .i64 pg3,.slice ka3 kn3 kc3,.slice va3 vn3 vc3,.slice oa3 on3 oc3,.slice ya3 yn3 yc3]++rowsC (fun i=>css (i+(l+2))) (n - (l+2)))->W9.grownBy wz (Value.slice x9 (l+1) y9).ownBlock->∃ ax cx,v'=.slice ax (l+1+(n - (l+2))) cx∧Hid (SL wz (fun g=>Q g∨base<=g) ZS v'∧Below base w wz)):=by
    intro v' wz g1 g2
    rw[<-HZS.out]
    obtain⟨xz,yz,rfl⟩:=own_shape g1
    refine⟨xz,yz,rfl,?_⟩
    have sz:=g2.size
    have o9:∀ g,(Value.slice x9 (l+1) y9).ownBlock=some g->W.heap.size<=g:=fun g hg=>(R9.lt g hg).1
    have eu:[.bool lf3,.int .i64 pg3,.slice ka3 kn3 kc3,.slice va3 vn3 vc3,.slice oa3 on3 oc3,.slice ya3 yn3 yc3]=rowsC (fun _=>[.bool lf3,.int .i64 pg3,.slice ka3 kn3 kc3,.slice va3 vn3 vc3,.slice oa3 on3 oc3,.slice ya3 yn3 yc3]) 1:=by simp[rowsC]
    rw[eu,rowsC_app,rowsC_app] at g1
    have hlen:(ys.take l++[glueT x y]++ys.drop (l+2)).length=l+1+(n - (l+2)):=by simp only[List.length_append,List.length_take,List.length_drop,List.length_cons,List.length_nil,HNN.out];omega
    have hkW:∀ z cs,NodeQ W W.heap.size Q z cs->NodeQ wz wz.heap.size (fun g=>Q g∨base<=g) z cs:=fun z cs hz=>NodeQ.keep (fun g hg hl=>(g2.block g (by omega) (fun e=>by have:=o9 g e.symm;omega)).trans (hB9.block g hl)) (fun g hg=>.inl hg) (by omega) z cs hz
    have hS:NodeQ wz wz.heap.size (fun g=>Q g∨base<=g) (glueT x y) [.bool lf3,.int .i64 pg3,.slice ka3 kn3 kc3,.slice va3 vn3 vc3,.slice oa3 on3 oc3,.slice ya3 yn3 yc3]:=NodeQ.keep (fun g hg hl=>g2.block g hl (fun e=>hg.2 e.symm)) (fun g hg=>hg.1.imp id (fun h=>by omega)) sz _ _ hS9.nodeQ
    have hA1:(ys.take l).length=l:=by rw[List.length_take,HNN.out];omega
    have hA2:(ys.take l++[glueT x y]).length=l+1:=by rw[List.length_append,hA1];rfl
    have hkk:∀ (i:Nat) z,(ys.take l++[glueT x y]++ys.drop (l+2))[i]?=some z->NodeQ wz wz.heap.size (fun g=>Q g∨base<=g) z ((fun i=>if i<l+1 then (fun i=>if i<l then css i else (fun _=>[.bool lf3,.int .i64 pg3,.slice ka3 kn3 kc3,.slice va3 vn3 vc3,.slice oa3 on3 oc3,.slice ya3 yn3 yc3]) (i - l)) i else (fun i=>css (i+(l+2))) (i - (l+1))) i):=by
     refine kids_app (P:=fun z cs=>NodeQ wz wz.heap.size (fun g=>Q g∨base<=g) z cs) (A:=ys.take l++[glueT x y]) (B:=ys.drop (l+2)) (cA:=fun i=>if i<l then css i else (fun _=>[.bool lf3,.int .i64 pg3,.slice ka3 kn3 kc3,.slice va3 vn3 vc3,.slice oa3 on3 oc3,.slice ya3 yn3 yc3]) (i - l)) (cB:=fun i=>css (i+(l+2))) hA2 ?_ ?_
     ·refine kids_app (P:=fun z cs=>NodeQ wz wz.heap.size (fun g=>Q g∨base<=g) z cs) (A:=ys.take l) (B:=[glueT x y]) (cA:=css) (cB:=fun _=>[.bool lf3,.int .i64 pg3,.slice ka3 kn3 kc3,.slice va3 vn3 vc3,.slice oa3 on3 oc3,.slice ya3 yn3 yc3]) hA1 ?_ ?_
      ·intro i z hi
       rw[List.getElem?_take] at hi
       split at hi
       ·exact hkW _ _ (OLW.out.kid i z hi)
       ·cases hi
      ·intro i z hi
       have hz9:z ∈ [glueT x y]:=List.mem_of_getElem? hi
       rw[List.mem_singleton] at hz9
       rw[hz9]
       exact hS
     ·intro i z hi
      rw[List.getElem?_drop,Nat.add_comm] at hi
      exact hkW _ _ (OLW.out.kid _ z hi)
    rw[<-hlen] at g1
    obtain⟨a',c',e',h'⟩:=inn_mk (Q:=fun g=>Q g∨base<=g) (own_lowerT g1 hbsW) (fun g hg=>.inr hg) hkk
    rw[<-hlen]
    exact⟨⟨a',c',_,e',h'⟩,(BW.out.mono hbs).trans ((hB9.mono hbsW).trans ⟨g2.os,g2.tape,g2.output,g2.size,fun g hg=>g2.block g (by omega) (fun e=>by have:=o9 g e.symm;omega)⟩)⟩
   clear hR9 hk9 HGL C6X C6Y hHeld HZS
   go_wp2_with (at_builtin;refine wpList_append_S _ rfl _ _ 45 rfl W.heap.size 47 i3 _ 6 112 Tryz.underlying45 hi3 hs0 hs1 hs2 rfl (by decide) (by decide) _ (l+1) _ rfl R9 (by omega) _ W9.heap.size (n - (l+2)) _ rfl src9 s9 ?_;intro v' wz g1 g2 g3;obtain⟨xz,yz,rfl,HZ⟩:=HEND.out v' wz g1 g2;clear g1 g2 g3)
   all_goals (go_ret;exact⟨_,rfl,HZ.out.1,HZ.out.2⟩)
end Go.Proofs.YtbfggcekifaldaaGreat
