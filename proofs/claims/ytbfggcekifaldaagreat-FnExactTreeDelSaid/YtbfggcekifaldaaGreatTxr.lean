import Derived.Test.YtbfggcekifaldaaGreatTxh
import Derived.Test.YtbfggcekifaldaaGreatHTxa
import Derived.Test.YtbfggcekifaldaaGreatHTxp
namespace Go.Proofs.YtbfggcekifaldaaGreat
open Go.RowKit
set_option linter.unusedVariables false
set_option linter.unusedSimpArgs false
set_option maxRecDepth 100000
theorem l3Mend_any {w:World} {base:Nat} {Q:Nat->Prop} {ys:List T} {b c m:Nat} {css:Nat->List Value} {d:T} {ht:Int} (h:OL w base Q ys b c css) (hbs:base<=w.heap.size) (hQ:∀ g,Q g->g<w.heap.size) (hn:2<=ys.length∧ys.length<=4) (h0:0<=ht) (hd:ys[m]?=some d) (fd:Few d ht) (hr:∀ (j:Nat) z,j≠m->ys[j]?=some z->Fit z ht) :
  Calls Tryz.prog 35 #[.slice (some ⟨b,0,none⟩) ys.length c,.int .i64 m] w fun e w'=>∃ v',e=.returned v'∧SL w' (fun g=>Q g∨base<=g) (mendT ys m) v'∧Below base w w':=by
 have hm:=(List.getElem?_eq_some_iff.1 hd).1
 have hd1:d.size=1:=by have:=fd.soft.size;omega
 by_cases q1:0<m∧2<(ys.getD (m - 1) leafT).size
 ·obtain⟨j,rfl⟩:∃ j,m=j+1:=⟨m - 1,by omega⟩
  obtain⟨x,hx⟩:∃ x,ys[j]?=some x:=⟨_,List.getElem?_eq_getElem (by omega)⟩
  have hxe:ys.getD j leafT=x:=by simp[List.getD,hx]
  have hx2:2<x.size:=by rw[<-hxe];simpa using q1.2
  have fx:=hr j x (by omega) hx
  have sx:=fx.size
  have:=mendS1 (s:=x.size - 1) h hbs hQ (by omega) hx hd (by omega) (by omega) (by omega) (by omega) fx.lens fd.lens
  rw[show ((j:Int)+1)=((j+1:Nat):Int) by omega,set_two (by omega)] at this
  have e:mendT ys (j+1)=ys.take j++[x.fore (x.size - 1),glueT (x.rest (x.size - 1)) d]++ys.drop (j+2):=by
   unfold mendT
   rw[if_pos q1]
   show repl2 ys j giveR=_
   unfold repl2 giveR
   simp only[List.getD,hx,hd,Option.getD_some]
  rw[e]
  exact this
 ·by_cases q2:m+1<ys.length∧2<(ys.getD (m+1) leafT).size
  ·obtain⟨y,hy⟩:∃ y,ys[m+1]?=some y:=⟨_,List.getElem?_eq_getElem q2.1⟩
   have hye:ys.getD (m+1) leafT=y:=by simp[List.getD,hy]
   have hy2:2<y.size:=by rw[<-hye];exact q2.2
   have fy:=hr (m+1) y (by omega) hy
   have sy:=fy.size
   have:=mendS2 h hbs hQ (by omega) hd hy hy2 (by omega) (by omega) fd.lens fy.lens (by
    rcases Nat.eq_zero_or_pos m with h9 | h9
    ·exact .inl h9
    ·obtain⟨x,hx⟩:∃ x,ys[m - 1]?=some x:=⟨_,List.getElem?_eq_getElem (by omega)⟩
     have hxe:ys.getD (m - 1) leafT=x:=by simp[List.getD,hx]
     exact .inr ⟨m - 1,x,by omega,hx,by rw[hxe] at q1;omega⟩)
   rw[set_two (by omega)] at this
   have e:mendT ys m=ys.take m++[glueT d (y.fore 1),y.rest 1]++ys.drop (m+2):=by
    unfold mendT
    rw[if_neg q1,if_pos q2]
    unfold repl2 giveL
    simp only[List.getD,hd,hy,Option.getD_some]
   rw[e]
   exact this
  ·obtain⟨l,hlm⟩:∃ l,m - 1=l:=⟨_,rfl⟩
   obtain⟨x,hx⟩:∃ x,ys[l]?=some x:=⟨_,List.getElem?_eq_getElem (by omega)⟩
   obtain⟨y,hy⟩:∃ y,ys[l+1]?=some y:=⟨_,List.getElem?_eq_getElem (by omega)⟩
   have e:mendT ys m=ys.take l++[glueT x y]++ys.drop (l+2):=by
    unfold mendT
    rw[if_neg q1,if_neg q2,hlm]
    unfold repl2
    simp only[List.getD,hx,hy,Option.getD_some]
   rw[e]
   rcases Nat.eq_zero_or_pos m with hm0 | hm0
   ·obtain rfl:l=m:=by omega
    rw[hd] at hx
    cases hx
    have fy:=hr (l+1) y (by omega) hy
    have sy:=fy.size
    have hye:ys.getD (l+1) leafT=y:=by simp only[List.getD,hy,Option.getD_some]
    exact mendS3 h hbs hQ (by omega) hd hy (by omega) (by omega) fd.lens fy.lens (.inl ⟨rfl,hm0,by rw[hye] at q2;omega⟩)
   ·obtain rfl:m=l+1:=by omega
    rw[hd] at hy
    cases hy
    have fx:=hr l x (by omega) hx
    have sx:=fx.size
    have hxe:ys.getD (l+1 - 1) leafT=x:=by simp only[Nat.add_sub_cancel,List.getD,hx,Option.getD_some]
    refine mendS3 h hbs hQ (by omega) hx hd (by omega) (by omega) fx.lens fd.lens (.inr ⟨rfl,by rw[hxe] at q1;omega,?_⟩)
    rcases Nat.lt_or_ge (l+1+1) ys.length with h9 | h9
    ·obtain⟨z,hz⟩:∃ z,ys[l+1+1]?=some z:=⟨_,List.getElem?_eq_getElem h9⟩
     have hze:ys.getD (l+1+1) leafT=z:=by simp only[List.getD,hz,Option.getD_some]
     exact .inr ⟨z,hz,by rw[hze] at q2;omega⟩
    ·exact .inl (by omega)
theorem OL.tight {w:World} {base:Nat} {Q:Nat->Prop} {ys:List T} {b c:Nat} {css:Nat->List Value} (h:OL w base Q ys b c css):OL w base (fun g=>Q g∧g<w.heap.size) ys b c css:=⟨h.row,fun i z hz=>NodeQ.tight z _ (h.kid i z hz),fun e=>h.off e.1⟩
theorem SL.mono {w:World} {Q Q':Nat->Prop} {ys:List T} {v:Value} (h:SL w Q ys v) (hQ:∀ g,Q g->Q' g):SL w Q' ys v:=h.keep (fun _ _ _=>rfl) hQ (Nat.le_refl _)
set_option maxHeartbeats 8000000 in
theorem l3Del_any (key:ByteArray):∀ (t:T) (r:Bool),t.good r=true->Neat t->0<=t.ht->SortT t.slots->HasK key t.slots->∀ (w:World) (Q:Nat->Prop) (v:Value),(∀ b,Q b->b<w.heap.size)->SN w Q t v->Calls Tryz.prog 17 #[v,.string key] w fun e w'=>∃ v',e=.returned v'∧SN w' (fun g=>Q g∨w.heap.size<=g) (delT key t) v'∧Below w.heap.size w w':=by
 intro t
 induction t using T.ind with
 | h t ih =>
  intro r hg hnt hh hso hhas w Q v hQ h
  have hn':=(neat_eq t).1 hnt
  cases hl:t.leaf
  ·have h24:=good_two hg hl
   have hkh:=ht_kids hl (hn'.2.1 hl).2.2.2 hh
   have htw:=toward_tow (key:=key) (t:=t) (by omega)
   have HSN:Hid (SN w Q t v):=h
   have HQ:Hid (∀ b,Q b->b<w.heap.size):=hQ
   obtain⟨ka,kn,kc,va,vn,vc,oa,on,oc,ya,yc,css,rfl,hXQ⟩:=h
   have HXQ:Hid (QX w w.heap.size Q t ka kn kc va vn vc oa on oc ya yc css):=hXQ
   obtain⟨yn,hyn⟩:∃ yn,t.kids.length=yn:=⟨_,rfl⟩
   obtain⟨pg,hpg⟩:∃ pg,t.page=pg:=⟨_,rfl⟩
   obtain⟨N,hN⟩:∃ N,w.heap.size=N:=⟨_,rfl⟩
   have hyc1:=hXQ.nx.cap.1
   have hyc2:=hXQ.nx.cap.2
   unfold maxLen at hyc2
   rw[hyn] at hyc1 h24
   have HYN:Hid (t.kids.length=yn∧t.page=pg∧t.leaf=false):=⟨hyn,hpg,hl⟩
   obtain⟨m,hm⟩:∃ m,towN key t.kids=m:=⟨_,rfl⟩
   rw[hm] at htw
   have hmk:=htw.1
   obtain⟨k,hk⟩:∃ k,t.kids[m]?=some k:=⟨_,List.getElem?_eq_getElem hmk⟩
   have hkm:k ∈ t.kids:=List.mem_of_getElem? hk
   have hkg:=good_kid hg hkm
   have hhk:=(has_toward hl ⟨r,hg⟩ hso htw hk).1 hhas
   have hsk:=(look_toward hl ⟨r,hg⟩ hso htw hk).2
   have HDI:Hid (DelIs key k (delT key k)):=del_is key k false hkg (hn'.2.2 k hkm) (hkh k hkm).2 hsk hhk
   have hrec0:=ih k hkm false hkg (hn'.2.2 k hkm) (hkh k hkm).2 hsk hhk
   have HREC:Hid (∀ (w:World) (Q:Nat->Prop) (v:Value),(∀ b,Q b->b<w.heap.size)->SN w Q k v->Calls Tryz.prog 17 #[v,.string key] w fun e w'=>∃ v',e=.returned v'∧SN w' (fun g=>Q g∨w.heap.size<=g) (delT key k) v'∧Below w.heap.size w w'):=hrec0
   have HDT:Hid (delT key t=innT (delK m t.kids (delT key k))):=by
    show _=_
    have:=delT_inner (key:=key) hl (k:=k) (by rw[hm];exact hk)
    rw[hm] at this
    exact this
   have HKS:Hid (2<=k.size∧k.ht=t.ht - 1∧0<=t.ht - 1):=by
    have h1:=(good_parts hkg).1
    have h2:=hkh k hkm
    simp at h1
    exact⟨by omega,h2.1,by omega⟩
   have HOT:Hid (∀ (j:Nat) z d,j≠m->(t.kids.set m d)[j]?=some z->Fit z (t.ht - 1)):=fun j z d hj hz=>by
    rw[List.getElem?_set_ne (Ne.symm hj)] at hz
    have hzm:=List.mem_of_getElem? hz
    exact⟨good_kid hg hzm,hn'.2.2 z hzm,(hkh z hzm).1⟩
   have HK:Hid (t.kids[m]?=some k∧m<t.kids.length):=⟨hk,hmk⟩
   have hmn:m<yn:=by omega
   have hya:ya=none->t.kids.length=0:=fun e=>by
    obtain⟨_,_,e2,_⟩:=hXQ.nx.cell (by omega)
    rw[e] at e2;cases e2
   have HYA:Hid (ya=none->t.kids.length=0):=hya
   rw[hl,hyn,hpg] at HSN ⊢
   obtain⟨W,hW⟩:∃ W,W=(w.alloc (.cells #[.bool false,.int .i64 pg,.slice ka kn kc,.slice va vn vc,.slice oa on oc,.slice ya yn yc] 47)).alloc (.cells #[.bool false,.int .i64 0,.slice none 0 0,.slice none 0 0,.slice none 0 0,.slice none 0 0] 47):=⟨_,rfl⟩
   have al:=alloc2N w (.cells #[.bool false,.int .i64 pg,.slice ka kn kc,.slice va vn vc,.slice oa on oc,.slice ya yn yc] 47) (.cells #[.bool false,.int .i64 0,.slice none 0 0,.slice none 0 0,.slice none 0 0,.slice none 0 0] 47)
   rw[<-hW,hN] at al
   obtain⟨k0,k1,sW,bW⟩:=al
   obtain⟨i3,hi3,hs0,hs1,hs2⟩:=info_parts info_l3N
   have SY:Hid (∀ V,Below N w V->SrcAt V N 6 yn (.slice ya yn yc) (rowsC css yn)):=fun V hb=>by
    have:=srcKids HXQ.out.nx (by have:=HYN.out.1;omega) HYA.out
    rw[hN,HYN.out.1] at this
    exact this.below hb
   have hch:Calls Tryz.prog 33 #[.agg #[.bool false,.int .i64 pg,.slice ka kn kc,.slice va vn vc,.slice oa on oc,.slice ya yn yc],.string key] W fun e w'=>e=.returned (.int .i64 m)∧m<yn∧Below W.heap.size W w':=by
    have:=l3Child_any w.heap.size t key ⟨r,hg⟩ hl W ka kn kc va vn vc oa on oc ya yc css (by omega) (HXQ.out.nx.belowC (hN ▸ bW))
    rw[HYN.out.2.2,HYN.out.1,HYN.out.2.1,hm] at this
    exact this
   have HGR:Hid (t.good r=true):=hg
   clear ih hg hnt hh hso hhas hQ hXQ hn' hkh htw hk hkm hkg hhk hsk hrec0 hya hl hyn hpg hm hmk
   go_enter Tryz.func17,Tryz.ntmps17
   go_upto_region 1 with fail
   rw[<-hW]
   clear hW
   have lN:N<W.heap.size:=by omega
   obtain⟨p0,p1,p2,p3,p4,p5⟩:=box6g k0
   go_upto_region 9 with (go_at_call 33;refine hch.mono ?_;rintro e w2 ⟨rfl,hmn2,hb2⟩)
   have s2:=hb2.size
   have k02:=(hb2.block N (by omega)).trans k0
   have k12:=(hb2.block (N+1) (by omega)).trans k1
   have b2:Below N w w2:=bW.trans (hb2.mono (by omega))
   clear hch hb2 k0 k1 bW p0 p1 p2 p3 p4 p5 lN
   obtain⟨p0,p1,p2,p3,p4,p5⟩:=box6g k02
   have lN:N<w2.heap.size:=by omega
   have aE:Below w2.heap.size w2 (w2.alloc (.cells #[] 47)):=(Below.refl _ _).alloc (Nat.le_refl _) _
   have rE:=emptyE w2 47 6 (N+2) (by omega)
   have kE:=(aE.block N lN).trans k02
   have src2:=SY.out (w2.alloc (.cells #[] 47)) (b2.trans (aE.mono (by omega)))
   have HNX:Hid (∀ v' w4,w4.ownsRow (N+2) 47 6 v' (0+yn) ([]++rowsC css yn)->(w2.alloc (.cells #[] 47)).grownBy w4 (Value.slice (some ⟨w2.heap.size,0,none⟩) 0 0).ownBlock->∃ b3 y3,v'=.slice (some ⟨b3,0,none⟩) yn y3∧w4.ownsRow (N+2) 47 6 (.slice (some ⟨b3,0,none⟩) yn y3) yn (rowsC css yn)∧Below w2.heap.size w2 w4∧yn<=y3∧y3<=maxLen):=by
    intro v' w4 g1 g2
    rw[Nat.zero_add,List.nil_append] at g1
    obtain⟨x,y,rfl⟩:=own_shape g1
    rcases g1.2 with ⟨_,e2⟩ | ⟨g,cap,cur,e,_,_,h3,h4,_⟩
    ·omega
    ·simp only[Value.slice.injEq] at e
     obtain⟨rfl,_,rfl⟩:=e
     exact⟨g,y,rfl,g1,aE.grown g2 aE.size (fun g e=>by have:=own_some e;omega),h3,h4⟩
   obtain⟨pe0,pe1,pe2,pe3,pe4,pe5⟩:=box6g kE
   have lNE:N<(w2.alloc (.cells #[] 47)).heap.size:=by simp;omega
   go_upto_region 10 with (at_builtin;refine wpList_append_S _ rfl _ _ 45 rfl (N+2) 47 i3 _ 6 112 Tryz.underlying45 hi3 hs0 hs1 hs2 rfl (by decide) (by decide) _ 0 [] rfl rE (by omega) _ N yn _ rfl src2 (by simp;omega) ?_;intro v' w3 g1 g2 g3;obtain⟨b3,y3,rfl,R3,hb3,hy31,hy32⟩:=HNX.out v' w3 g1 g2)
   have s3:=hb3.size
   have k03:=(hb3.block N (by omega)).trans k02
   have k13:=(hb3.block (N+1) (by omega)).trans k12
   have b3w:Below N w w3:=b2.trans (hb3.mono (by omega))
   have s3':N+2<=w3.heap.size:=by omega
   unfold maxLen at hy32
   clear HNX src2 rE aE g1 g2 g3 hb3 k02 k12 b2 p0 p1 p2 p3 p4 p5 lN s3 s2 kE pe0 pe1 pe2 pe3 pe4 pe5 lNE
   have lb3:=R3.lt b3 rfl
   have hQ3:∀ g,Q g->g<N:=fun g hg=>by have:=HQ.out g hg;omega
   have O3:OL w3 (N+2) Q t.kids b3 y3 css:=⟨by rw[HYN.out.1];exact R3,fun i z hz=>NodeQ.keep (fun g hg hlt=>b3w.block g (by omega)) (fun _ h=>h) (by have:=b3w.size;omega) z _ (HXQ.out.kq i z (List.mem_of_getElem? hz) hz),fun e=>by have:=hQ3 b3 e;omega⟩
   obtain⟨b,off,rfl,hbl,k',hki',hkm',ka',kn',kc',va',vn',vc',oa',on',oc',ya',yc',hSk,c0,c1,c2,c3,c4,c5⟩:=kid_at HXQ.out (i:=m) (by have:=HYN.out.1;omega)
   obtain rfl:k'=k:=by have h9:=HK.out.1;rw[hki'] at h9;cases h9;rfl
   have hcW:∀ x,w3.cell? ⟨b,x,none⟩=w.cell? ⟨b,x,none⟩:=fun x=>World.cell?_of_block (a:=⟨b,x,none⟩) (b3w.block b (by omega))
   rw[<-hcW] at c0 c1 c2 c3 c4 c5
   have hrec:=HREC.out w3 Q _ (fun g hg=>by have:=hQ3 g hg;omega) (hSk.keep (fun g hg hlt=>b3w.block g (by omega)) (fun _ h=>h) (by have:=b3w.size;omega))
   obtain⟨d,hdd⟩:∃ d,delT key k'=d:=⟨_,rfl⟩
   rw[hdd] at hrec HDI HDT
   have HCL:Hid (∀ w5 v5,SN w5 (fun g=>Q g∨w3.heap.size<=g) d v5->Below w3.heap.size w3 w5->∃ lfd pgd kad knd kcd vad vnd vcd oad ond ocd yad ynd ycd,v5=.agg #[.bool lfd,.int .i64 pgd,.slice kad knd kcd,.slice vad vnd vcd,.slice oad ond ocd,.slice yad ynd ycd]∧(Six w5 b3 (m*6) k'.leaf k'.page ka' kn' kc' va' vn' vc' oa' on' oc' ya' k'.kids.length yc')∧(∀ x,w5.frozen? ⟨b3,x,none⟩=false)∧b3<w5.heap.size∧Hid ((∃ css5,OL (put6at w5 b3 (m*6) (.bool lfd) (.int .i64 pgd) (.slice kad knd kcd) (.slice vad vnd vcd) (.slice oad ond ocd) (.slice yad ynd ycd)) (N+2) (fun g=>Q g∨w3.heap.size<=g) (t.kids.set m d) b3 y3 css5)∧Below N w (put6at w5 b3 (m*6) (.bool lfd) (.int .i64 pgd) (.slice kad knd kcd) (.slice vad vnd vcd) (.slice oad ond ocd) (.slice yad ynd ycd))∧(put6at w5 b3 (m*6) (.bool lfd) (.int .i64 pgd) (.slice kad knd kcd) (.slice vad vnd vcd) (.slice oad ond ocd) (.slice yad ynd ycd)).heap[N+1]?=some (.cells #[.bool false,.int .i64 0,.slice none 0 0,.slice none 0 0,.slice none 0 0,.slice none 0 0] 47)∧N+2<=(put6at w5 b3 (m*6) (.bool lfd) (.int .i64 pgd) (.slice kad knd kcd) (.slice vad vnd vcd) (.slice oad ond ocd) (.slice yad ynd ycd)).heap.size)):=by
    intro w5 v5 hS5 hb5
    have s5:=hb5.size
    obtain⟨lfd,pgd,kad,knd,kcd,vad,vnd,vcd,oad,ond,ocd,yad,ynd,ycd,rfl⟩:=hS5.letters
    have off5:¬ (Q b3∨w3.heap.size<=b3):=fun e=>e.elim (fun e=>O3.off e) (fun e=>by omega)
    have O5:OL w5 (N+2) (fun g=>Q g∨w3.heap.size<=g) t.kids b3 y3 css:=O3.below hb5 (fun g h=>.inl h) off5
    obtain⟨s1,f5⟩:=O5.set (i:=m) HK.out.2 hS5
    have sz:=f5.size
    refine⟨lfd,pgd,kad,knd,kcd,vad,vnd,vcd,oad,ond,ocd,yad,ynd,ycd,rfl,?_,O5.thaw,by omega,s1,(b3w.trans (hb5.mono (by omega))).trans (f5.below (by have:=b3w.size;omega) (fun g e=>by omega)),((f5.block (N+1) (by omega) (fun e=>by omega)).trans (hb5.block (N+1) (by omega))).trans k13,by omega⟩
    have hg9:=rowsC_get O5.six
    have e9:=(NodeQ.out (HXQ.out.kq m _ hkm' hki'))
    have hcell:∀ x,x<6->w5.cell? ⟨b3,m*6+x,none⟩=(css m)[x]?:=fun x hx=>by rw[O5.row.cellAt _ (by have:=HK.out.2;omega)];exact hg9.2 m x HK.out.2 hx
    obtain⟨q1,q2,q3,q4,q5,q6,q7,q8,q9,q10,q11,q12,e10,_⟩:=e9
    have hcs:css m=[.bool k'.leaf,.int .i64 k'.page,.slice ka' kn' kc',.slice va' vn' vc',.slice oa' on' oc',.slice ya' k'.kids.length yc']:=by
     obtain⟨bb,oo,ee,_,hc9⟩:=HXQ.out.nx.cell (by have:=HYN.out.1;omega)
     cases ee
     have h6:∀ x,x<6->(css m)[x]?=w.cell? ⟨b,off+m*6+x,none⟩:=fun x hx=>(hc9 m HK.out.2 x hx).symm
     have z0:=h6 0 (by omega)
     have z1:=h6 1 (by omega)
     have z2:=h6 2 (by omega)
     have z3:=h6 3 (by omega)
     have z4:=h6 4 (by omega)
     have z5:=h6 5 (by omega)
     rw[Nat.add_zero,<-hcW,c0] at z0
     rw[<-hcW,c1] at z1
     rw[<-hcW,c2] at z2
     rw[<-hcW,c3] at z3
     rw[<-hcW,c4] at z4
     rw[<-hcW,c5] at z5
     clear z0 z1
     rw[e10] at z2 z3 z4 z5 ⊢
     simp only[List.getElem?_cons_zero,List.getElem?_cons_succ,Option.some.injEq] at z2 z3 z4 z5
     rw[z2,z3,z4,z5]
    rw[hcs] at hcell
    exact⟨by simpa using hcell 0 (by omega),by simpa using hcell 1 (by omega),by simpa using hcell 2 (by omega),by simpa using hcell 3 (by omega),by simpa using hcell 4 (by omega),by simpa using hcell 5 (by omega)⟩
   obtain⟨p0,p1,p2,p3,p4,p5⟩:=box6g k03
   have lN:N<w3.heap.size:=by omega
   have lbk:b<w3.heap.size:=by have:=b3w.size;omega
   clear hcW hSk hki' hkm' HREC R3 O3
   go_upto_region 11 with (go_at_call 17;refine hrec.mono ?_;rintro e w5 ⟨v5,rfl,hS5,hb5⟩;obtain⟨lfd,pgd,kad,knd,kcd,vad,vnd,vcd,oad,ond,ocd,yad,ynd,ycd,rfl,⟨y0,y1,y2,y3',y4,y5⟩,ff,lb5,HC5⟩:=HCL.out w5 v5 hS5 hb5)
   rw[put6at_eq]
   generalize put6at w5 b3 (m*6) (.bool lfd) (.int .i64 pgd) (.slice kad knd kcd) (.slice vad vnd vcd) (.slice oad ond ocd) (.slice yad ynd ycd)=X at HC5 ⊢
   obtain⟨⟨css5,O5⟩,bX,kX1,sX⟩:=HC5.out
   have hdk:(t.kids.set m d)[m]?=some d:=by simp[HK.out.2]
   obtain⟨lfe,pge,kae,kne,kce,vae,vne,vce,oae,one,oce,yae,yne,yce,hSe,c6e⟩:=O5.at hdk
   have lbX:=O5.lt.2
   obtain⟨e0,e1,e2,e3,e4,e5⟩:=c6e
   obtain⟨s,hs⟩:∃ s,d.size=s:=⟨_,rfl⟩
   have HS:Hid (d.size=s):=hs
   have hsz:=size_SN hSe X
   rw[hs] at hsz
   have hsm:s<=4∧1<=s:=by have:=HDI.out.soft.size;have:=HKS.out.1;omega
   clear HCL hrec hS5 hb5 y0 y1 y2 y3' y4 y5 ff lb5 HC5 p0 p1 p2 p3 p4 p5 lN c0 c1 c2 c3 c4 c5 hs
   go_wp2_with fail
   refine hsz.mono ?_
   rintro e V ⟨rfl,bXV⟩
   have sV:=bXV.size
   have kV1:=(bXV.block (N+1) (by omega)).trans kX1
   have bV:Below N w V:=bX.trans (bXV.mono (by omega))
   have offV:¬ (Q b3∨w3.heap.size<=b3):=O5.off
   have OV:OL V (N+2) (fun g=>Q g∨w3.heap.size<=g) (t.kids.set m d) b3 y3 css5:=O5.below bXV (fun _ h=>h) offV
   have OVT:=OV.tight
   clear hsz hSe e0 e1 e2 e3 e4 e5 bXV O5 kX1 bX
   by_cases h2:s<2
   ·have hd1:(s:Int)<2:=by omega
    have fd:Few d (t.ht - 1):=by
     have hdi:=HDI.out
     have hds:0<d.size:=by rw[HS.out];omega
     have hone:d.size=1:=by rw[HS.out];omega
     exact⟨⟨hdi.soft.page,by omega,hdi.soft.leaf,hdi.soft.kids⟩,hdi.neat hds,by rw[hdi.ht hds];exact HKS.out.2.1⟩
    have hmd:=l3Mend_any OVT (by omega) (fun g hg=>hg.2) (by rw[List.length_set,HYN.out.1];omega) HKS.out.2.2 hdk fd (fun j z hj hz=>HOT.out j z d hj hz)
    rw[List.length_set,HYN.out.1] at hmd
    obtain⟨YS,hYS⟩:∃ YS,mendT (t.kids.set m d) m=YS:=⟨_,rfl⟩
    rw[hYS] at hmd
    have HYS:Hid (YS=delK m t.kids d):=by show _=_;unfold delK;rw[if_pos (by rw[HS.out];exact h2),hYS]
    clear hYS fd OVT OV
    go_upto_region 13 with (go_at_call 35;refine hmd.mono ?_;rintro e W6 ⟨v6,rfl,hSL6,bW6⟩;have HSL:Hid (SL W6 (fun g=>Q g∨N+2<=g) YS v6):=hSL6.mono (fun g hg=>hg.elim (fun h=>h.1.imp id (fun h=>by omega)) .inr))
    all_goals (
     obtain⟨za,zc,cssz,rfl,hXZ⟩:=HSL.out
     obtain⟨zn,hzn⟩:∃ zn,YS.length=zn:=⟨_,rfl⟩
     have HZN:Hid (YS.length=zn):=hzn
     have HXZ:Hid (QX W6 W6.heap.size (fun g=>Q g∨N+2<=g) (innT YS) none 0 0 none 0 0 none 0 0 za zc cssz):=hXZ
     rw[hzn]
     have k16:=(bW6.block (N+1) (by omega)).trans kV1
     have hp:=put6T_fr W6 (N+1) (.bool false) (.int .i64 0) (.slice none 0 0) (.slice none 0 0) (.slice none 0 0) (.slice za zn zc)
     have hbx:=put6T_box k16 (.bool false) (.int .i64 0) (.slice none 0 0) (.slice none 0 0) (.slice none 0 0) (.slice za zn zc)
     have s6:=bW6.size
     have BF:Hid (Below w.heap.size w (put6T W6 (N+1) (.bool false) (.int .i64 0) (.slice none 0 0) (.slice none 0 0) (.slice none 0 0) (.slice za zn zc))):=by
      show Below _ _ _
      rw[hN]
      exact (bV.trans (bW6.mono (by omega))).trans (hp.below (by have:=bV.size;omega) (fun g e=>by omega))
     have HG:Hid (SN (put6T W6 (N+1) (.bool false) (.int .i64 0) (.slice none 0 0) (.slice none 0 0) (.slice none 0 0) (.slice za zn zc)) (fun g=>Q g∨w.heap.size<=g) (delT key t) (.agg #[.bool false,.int .i64 0,.slice none 0 0,.slice none 0 0,.slice none 0 0,.slice za zn zc])):=by
      show SN _ _ _ _
      rw[HDT.out,<-HYS.out]
      have h9:SN W6 (fun g=>Q g∨N+2<=g) (innT YS) _:=⟨_,_,_,_,_,_,_,_,_,_,_,_,rfl,HXZ.out⟩
      have h8:=h9.keep (w':=put6T W6 (N+1) (.bool false) (.int .i64 0) (.slice none 0 0) (.slice none 0 0) (.slice none 0 0) (.slice za zn zc)) (Q':=fun g=>Q g∨w.heap.size<=g) (fun g hg hl=>hp.block g hl (fun e=>by rcases hg with h | h;(have:=HQ.out g h;omega);omega)) (fun g hg=>hg.imp id (fun h=>by omega)) hp.size
      have e9:(.agg #[.bool (innT YS).leaf,.int .i64 (innT YS).page,.slice none 0 0,.slice none 0 0,.slice none 0 0,.slice za (innT YS).kids.length zc]:Value)=.agg #[.bool false,.int .i64 0,.slice none 0 0,.slice none 0 0,.slice none 0 0,.slice za zn zc]:=by show (.agg #[.bool false,.int .i64 0,.slice none 0 0,.slice none 0 0,.slice none 0 0,.slice za YS.length zc]:Value)=_;rw[HZN.out]
      rw[e9] at h8
      exact h8
     obtain⟨o0,o1,o2,o3,o4,o5⟩:=box6g k16
     have fz:=thawT k16
     have lz:=(Array.getElem?_eq_some_iff.1 k16).1
     clear hXZ hzn HSL k16 hp bW6
     go_wp2_with fail
     try rw[put6T_eq]
     obtain⟨u0,u1,u2,u3,u4,u5⟩:=box6g hbx
     refine bodyPost_ret (v:=.agg #[.bool false,.int .i64 0,.slice none 0 0,.slice none 0 0,.slice none 0 0,.slice za zn zc]) (by simp[results,Tryz.results17,go_sem,u0,u1,u2,u3,u4,u5]) rfl ?_
     exact⟨_,rfl,HG.out,BF.out⟩
     )
   ·have hd1:¬ ((s:Int)<2):=by omega
    obtain⟨YS,hYS⟩:∃ YS,t.kids.set m d=YS:=⟨_,rfl⟩
    have HYS:Hid (YS=delK m t.kids d):=by show _=_;unfold delK;rw[if_neg (by rw[HS.out];exact h2),hYS]
    have hsl:=OV.sl (Q':=fun g=>Q g∨N+2<=g) (fun g hg=>hg.imp id (fun h=>by omega)) (fun g hg=>.inr hg)
    rw[List.length_set,HYN.out.1,hYS] at hsl
    have HSL:Hid (SL V (fun g=>Q g∨N+2<=g) YS (.slice (some ⟨b3,0,none⟩) yn y3)):=hsl
    have HYL:Hid (YS.length=yn):=by show _=_;rw[<-hYS,List.length_set,HYN.out.1]
    clear hYS hsl OV OVT
    go_upto_region 13 with fail
    have bW6:Below (N+2) V V:=Below.refl _ _
    obtain⟨za,zc,cssz,ez,hXZ⟩:=HSL.out
    simp only[Value.slice.injEq] at ez
    obtain⟨rfl,hq9,rfl⟩:=ez
    clear hq9
    have HZN:Hid (YS.length=yn):=HYL.out
    have HXZ:Hid (QX V V.heap.size (fun g=>Q g∨N+2<=g) (innT YS) none 0 0 none 0 0 none 0 0 (some ⟨b3,0,none⟩) y3 cssz):=hXZ
    have k16:=(bW6.block (N+1) (by omega)).trans kV1
    have hp:=put6T_fr V (N+1) (.bool false) (.int .i64 0) (.slice none 0 0) (.slice none 0 0) (.slice none 0 0) (.slice (some ⟨b3,0,none⟩) yn y3)
    have hbx:=put6T_box k16 (.bool false) (.int .i64 0) (.slice none 0 0) (.slice none 0 0) (.slice none 0 0) (.slice (some ⟨b3,0,none⟩) yn y3)
    have s6:=bW6.size
    have BF:Hid (Below w.heap.size w (put6T V (N+1) (.bool false) (.int .i64 0) (.slice none 0 0) (.slice none 0 0) (.slice none 0 0) (.slice (some ⟨b3,0,none⟩) yn y3))):=by
     show Below _ _ _
     rw[hN]
     exact (bV.trans (bW6.mono (by omega))).trans (hp.below (by have:=bV.size;omega) (fun g e=>by omega))
    have HG:Hid (SN (put6T V (N+1) (.bool false) (.int .i64 0) (.slice none 0 0) (.slice none 0 0) (.slice none 0 0) (.slice (some ⟨b3,0,none⟩) yn y3)) (fun g=>Q g∨w.heap.size<=g) (delT key t) (.agg #[.bool false,.int .i64 0,.slice none 0 0,.slice none 0 0,.slice none 0 0,.slice (some ⟨b3,0,none⟩) yn y3])):=by
     show SN _ _ _ _
     rw[HDT.out,<-HYS.out]
     have h9:SN V (fun g=>Q g∨N+2<=g) (innT YS) _:=⟨_,_,_,_,_,_,_,_,_,_,_,_,rfl,HXZ.out⟩
     have h8:=h9.keep (w':=put6T V (N+1) (.bool false) (.int .i64 0) (.slice none 0 0) (.slice none 0 0) (.slice none 0 0) (.slice (some ⟨b3,0,none⟩) yn y3)) (Q':=fun g=>Q g∨w.heap.size<=g) (fun g hg hl=>hp.block g hl (fun e=>by rcases hg with h | h;(have:=HQ.out g h;omega);omega)) (fun g hg=>hg.imp id (fun h=>by omega)) hp.size
     have e9:(.agg #[.bool (innT YS).leaf,.int .i64 (innT YS).page,.slice none 0 0,.slice none 0 0,.slice none 0 0,.slice (some ⟨b3,0,none⟩) (innT YS).kids.length y3]:Value)=.agg #[.bool false,.int .i64 0,.slice none 0 0,.slice none 0 0,.slice none 0 0,.slice (some ⟨b3,0,none⟩) yn y3]:=by show (.agg #[.bool false,.int .i64 0,.slice none 0 0,.slice none 0 0,.slice none 0 0,.slice (some ⟨b3,0,none⟩) YS.length y3]:Value)=_;rw[HZN.out]
     rw[e9] at h8
     exact h8
    obtain⟨o0,o1,o2,o3,o4,o5⟩:=box6g k16
    have fz:=thawT k16
    have lz:=(Array.getElem?_eq_some_iff.1 k16).1
    clear hXZ HSL k16 hp bW6
    go_wp2_with fail
    try rw[put6T_eq]
    obtain⟨u0,u1,u2,u3,u4,u5⟩:=box6g hbx
    refine bodyPost_ret (v:=.agg #[.bool false,.int .i64 0,.slice none 0 0,.slice none 0 0,.slice none 0 0,.slice (some ⟨b3,0,none⟩) yn y3]) (by simp[results,Tryz.results17,go_sem,u0,u1,u2,u3,u4,u5]) rfl ?_
    exact⟨_,rfl,HG.out,BF.out⟩
  ·have hp:=good_parts hg
   have e1:=hp.2.1 hl
   have hsl:t.slots=t.keys.zip (t.vals.zip t.over):=by rw[T.slots_eq,hl,hn'.1 hl];simp
   rw[hsl] at hso hhas
   exact l3DelLeaf_any hQ h hl ⟨fun _=>⟨hn'.1 hl,e1.1,e1.2.1⟩,fun e=>by rw[hl] at e;cases e⟩ (by have:=hp.1.2;omega) key (posT_there _ hso hhas)
end Go.Proofs.YtbfggcekifaldaaGreat
