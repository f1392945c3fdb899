import Derived.Test.YtbfggcekifaldaaGreatTks
import Derived.Test.YtbfggcekifaldaaGreatTxn
import Derived.Laws.IdiomCopy
namespace Go.Proofs.YtbfggcekifaldaaGreat
open Go.RowKit
set_option linter.unusedVariables false
set_option linter.unusedSimpArgs false
set_option maxRecDepth 100000
theorem hbtw {w7:World} {base:Nat} {Q:Nat->Prop} {ys:List T} {b c m:Nat} {css css8:Nat->List Value} {z y:T} {u0 u1 u2 u3 u4 u5:Value} (O8:OL (put6at w7 b (m*6) u0 u1 u2 u3 u4 u5) base Q (ys.set m z) b c css8) (hy8:(ys.set m z)[m+1]?=some y) {f8:Fr (fun g=>g=b) w7 (put6at w7 b (m*6) u0 u1 u2 u3 u4 u5)} {O7:OL w7 base Q ys b c css} (hy:ys[m+1]?=some y) {lfy:Bool} {pgy:Int} {kay:Option Addr} {kny kcy:Nat} {vay:Option Addr} {vny vcy:Nat} {oay:Option Addr} {ony ocy:Nat} {yay:Option Addr} {yny ycy:Nat} (h:Six w7 b ((m+1)*6) lfy pgy kay kny kcy vay vny vcy oay ony ocy yay yny ycy):Six (put6at w7 b (m*6) u0 u1 u2 u3 u4 u5) b ((m+1)*6) lfy pgy kay kny kcy vay vny vcy oay ony ocy yay yny ycy:=by
 have hne:∀ x,(x<m*6∨m*6+6<=x)->(put6at w7 b (m*6) u0 u1 u2 u3 u4 u5).cell? ⟨b,x,none⟩=w7.cell? ⟨b,x,none⟩:=fun x hx=>World.cell?_setCells_out b [u0,u1,u2,u3,u4,u5] (m*6) w7 ⟨b,x,none⟩ (fun _ _=>hx)
 obtain⟨h0,h1,h2,h3,h4,h5⟩:=h
 exact⟨(hne _ (by omega)).trans h0,(hne _ (by omega)).trans h1,(hne _ (by omega)).trans h2,(hne _ (by omega)).trans h3,(hne _ (by omega)).trans h4,(hne _ (by omega)).trans h5⟩
theorem two_fin {w X:World} {base:Nat} {Q Q':Nat->Prop} {ys:List T} {b c m n:Nat} {css8:Nat->List Value} {z y2:T} {u0 u1 u2 u3 u4 u5:Value} (O8:OL X base Q' (ys.set m z) b c css8) (hR8:SN X Q' y2 (.agg #[u0,u1,u2,u3,u4,u5])) (hm:m+1<ys.length) (hQ':∀ g,Q' g->Q g∨base<=g) (hn:ys.length=n) (B8:Below base w X) (hbX:base<=X.heap.size):SL (put6at X b ((m+1)*6) u0 u1 u2 u3 u4 u5) (fun g=>Q g∨base<=g) ((ys.set m z).set (m+1) y2) (.slice (some ⟨b,0,none⟩) n c)∧Below base w (put6at X b ((m+1)*6) u0 u1 u2 u3 u4 u5):=by
 obtain⟨⟨css9,O9⟩,f9⟩:=O8.set (i:=m+1) (by rw[List.length_set];exact hm) hR8
 have hb:=O8.lt.1
 have hsl:=O9.sl (Q':=fun g=>Q g∨base<=g) hQ' (fun g hg=>.inr hg)
 rw[List.length_set,List.length_set,hn] at hsl
 exact⟨hsl,B8.trans (f9.below hbX (fun g e=>by omega))⟩
set_option maxHeartbeats 8000000 in
theorem mendS2 {w:World} {base:Nat} {Q:Nat->Prop} {ys:List T} {b c m:Nat} {css:Nat->List Value} {d y:T} (h:OL w base Q ys b c css) (hbs:base<=w.heap.size) (hQ:∀ g,Q g->g<w.heap.size) (hn:ys.length<=1000) (hd:ys[m]?=some d) (hy:ys[m+1]?=some y) (hy2:2<y.size) (hy4:y.size<=400) (hd4:d.size<=400) (ld:Lens d) (ly:Lens y) (hpre:m=0∨∃ (j:Nat) (x:T),m=j+1∧ys[j]?=some x∧x.size<=2) :
  Calls Tryz.prog 35 #[.slice (some ⟨b,0,none⟩) ys.length c,.int .i64 m] w fun e w'=>∃ v',e=.returned v'∧SL w' (fun g=>Q g∨base<=g) ((ys.set m (glueT d (y.fore 1))).set (m+1) (y.rest 1)) v'∧Below base w w':=by
 obtain⟨n,hnn⟩:∃ n,ys.length=n:=⟨_,rfl⟩
 have HNN:Hid (ys.length=n):=hnn
 have hj:m+1<n:=by have:=(List.getElem?_eq_some_iff.1 hy).1;omega
 have hcap:n<=c∧c<=maxLen:=by
  rcases h.row.2 with ⟨e,e2⟩ | ⟨g,cap,cur,e,_,_,h3,h4,_⟩
  ·cases e
  ·simp only[Value.slice.injEq] at e;obtain⟨_,_,rfl⟩:=e;exact⟨by omega,h4⟩
 have hcc:=hcap.1
 have hcm:=hcap.2
 unfold maxLen at hcm
 obtain⟨lfd,pgd,kad,knd,kcd,vad,vnd,vcd,oad,ond,ocd,yad,ynd,ycd,hSd,c6d⟩:=h.at hd
 obtain⟨lfy,pgy,kay,kny,kcy,vay,vny,vcy,oay,ony,ocy,yay,yny,ycy,hSy,c6y⟩:=h.at hy
 have lbw:=h.lt.2
 have lbb:=h.lt.1
 obtain⟨sy,hsy⟩:∃ sy,y.size=sy:=⟨_,rfl⟩
 have HSZ:Hid (∀ W,Calls Tryz.prog 34 #[.agg #[.bool lfy,.int .i64 pgy,.slice kay kny kcy,.slice vay vny vcy,.slice oay ony ocy,.slice yay yny ycy]] W fun e w'=>e=.returned (.int .i64 sy)∧Below W.heap.size W w'):=fun W=>by have:=size_SN hSy W;rw[hsy] at this;exact this
 have hgt:(2:Int)<(sy:Int):=by omega
 have hsy4:sy<=400:=by omega
 have HOL:Hid (OL w base Q ys b c css):=h
 have HX:Hid (ys[m]?=some d∧ys[m+1]?=some y∧Lens d∧Lens y∧1<=y.size∧y.size<=400∧d.size<=400):=⟨hd,hy,ld,ly,by omega,hy4,hd4⟩
 have hmn:(m:Int)+1<(n:Int):=by omega
 rw[hnn]
 rcases hpre with hm0 | ⟨j,x,hmj,hx,hxs⟩
 ·have hng:¬ ((0:Int)<(m:Int)):=by omega
  have OLW:Hid (OL w base Q ys b c css):=HOL.out
  have CY:Hid (Six w b ((m+1)*6) lfy pgy kay kny kcy vay vny vcy oay ony ocy yay yny ycy):=c6y
  have CD:Hid (Six w b (m*6) lfd pgd kad knd kcd vad vnd vcd oad ond ocd yad ynd ycd):=c6d
  have SY:Hid (SN w Q y (.agg #[.bool lfy,.int .i64 pgy,.slice kay kny kcy,.slice vay vny vcy,.slice oay ony ocy,.slice yay yny ycy])):=hSy
  have SD:Hid (SN w Q d (.agg #[.bool lfd,.int .i64 pgd,.slice kad knd kcd,.slice vad vnd vcd,.slice oad ond ocd,.slice yad ynd ycd])):=hSd
  have BW:Hid (Below w.heap.size w w):=Below.refl _ _
  have lb:=lbw
  have hbsW:=hbs
  clear hd hy hy2 hy4 hd4 ld ly hn hnn hcap hSd hSy hm0 hsy
  obtain⟨p0,p1,p2,p3,p4,p5⟩:=c6y
  clear c6d h
  go_enter Tryz.func35,Tryz.ntmps35
  go_wp2_with fail
  clear p0 p1 p2 p3 p4 p5
  refine (HSZ.out w).mono ?_
  rintro e V2 ⟨rfl,bV2⟩
  have sV2:=bV2.size
  have hp:=l3Part_any (SY.out.below bV2) HX.out.2.2.2.1.slim 1 (by have:=HX.out.2.2.2.2.1;omega) (by have:=HX.out.2.2.2.2.2.1;omega)
  obtain⟨q0,q1,q2,q3,q4,q5⟩:=CY.out.keep (bV2.block b lb)
  have lb2:b<V2.heap.size:=by omega
  go_upto_region 10 with (go_at_call 31;refine hp.mono ?_;rintro e w9 ⟨v1,v2,rfl,hA,hR,hb9⟩;obtain⟨lf1,pg1,ka1,kn1,kc1,va1,vn1,vc1,oa1,on1,oc1,ya1,yn1,yc1,rfl⟩:=hA.letters;obtain⟨lf2,pg2,ka2,kn2,kc2,va2,vn2,vc2,oa2,on2,oc2,ya2,yn2,yc2,rfl⟩:=hR.letters)
  have al:=alloc2N w9 (.cells #[.bool lf1,.int .i64 pg1,.slice ka1 kn1 kc1,.slice va1 vn1 vc1,.slice oa1 on1 oc1,.slice ya1 yn1 yc1] 47) (.cells #[.bool lf2,.int .i64 pg2,.slice ka2 kn2 kc2,.slice va2 vn2 vc2,.slice oa2 on2 oc2,.slice ya2 yn2 yc2] 47)
  generalize (w9.alloc (.cells #[.bool lf1,.int .i64 pg1,.slice ka1 kn1 kc1,.slice va1 vn1 vc1,.slice oa1 on1 oc1,.slice ya1 yn1 yc1] 47)).alloc (.cells #[.bool lf2,.int .i64 pg2,.slice ka2 kn2 kc2,.slice va2 vn2 vc2,.slice oa2 on2 oc2,.slice ya2 yn2 yc2] 47)=W10 at al ⊢
  obtain⟨kα,kβ,sW10,bW10⟩:=al
  have s9:=hb9.size
  have b10:Below w.heap.size w W10:=bV2.trans ((hb9.trans (bW10.mono s9)).mono sV2)
  have hqm:∀ g,(Q g∨V2.heap.size<=g)->(Q g∨w.heap.size<=g):=fun g h=>h.imp id (fun h=>by omega)
  have hA1:SN W10 (fun g=>Q g∨w.heap.size<=g) (y.fore 1) (.agg #[.bool lf1,.int .i64 pg1,.slice ka1 kn1 kc1,.slice va1 vn1 vc1,.slice oa1 on1 oc1,.slice ya1 yn1 yc1]):=(hA.below bW10).mono hqm
  have hR1:SN W10 (fun g=>Q g∨w.heap.size<=g) (y.rest 1) (.agg #[.bool lf2,.int .i64 pg2,.slice ka2 kn2 kc2,.slice va2 vn2 vc2,.slice oa2 on2 oc2,.slice ya2 yn2 yc2]):=(hR.below bW10).mono hqm
  obtain⟨α,hα⟩:∃ α,w9.heap.size=α:=⟨_,rfl⟩
  rw[hα] at kα kβ sW10 ⊢
  have hαW:w.heap.size<=α:=by omega
  have lα:α<W10.heap.size:=by omega
  have lβ:α+1<W10.heap.size:=by omega
  have offC:¬ (Q b∨w.heap.size<=b):=fun e=>e.elim OLW.out.off (fun e=>by omega)
  have O10:OL W10 base (fun g=>Q g∨w.heap.size<=g) ys b c css:=OLW.out.below b10 (fun g h=>.inl h) offC
  have lb10:b<W10.heap.size:=by omega
  have C6D:Hid (Six W10.drew b (m*6) lfd pgd kad knd kcd vad vnd vcd oad ond ocd yad ynd ycd):=(CD.out.keep (b10.block b lb)).keep rfl
  have bD:Below W10.heap.size W10 W10.drew:=(Below.refl _ _).drew
  have hSD:SN W10 (fun g=>Q g∨w.heap.size<=g) d (.agg #[.bool lfd,.int .i64 pgd,.slice kad knd kcd,.slice vad vnd vcd,.slice oad ond ocd,.slice yad ynd ycd]):=(SD.out.below b10).mono (fun g h=>.inl h)
  have hgl:=l3Glue_any (hSD.below bD) (hA1.below bD) (lens_le HX.out.2.2.1 (by have:=HX.out.2.2.2.2.2.2;omega)) (lens_le (HX.out.2.2.2.1.fore 1) (by have:=(size_rest (x:=y) 1).2;have:=HX.out.2.2.2.2.2.1;omega))
  have Bw:Below base w W10:=(BW.out.mono hbs).trans (b10.mono hbsW)
  have HGL:Hid (Calls Tryz.prog 32 #[.agg #[.bool lfd,.int .i64 pgd,.slice kad knd kcd,.slice vad vnd vcd,.slice oad ond ocd,.slice yad ynd ycd],.agg #[.bool lf1,.int .i64 pg1,.slice ka1 kn1 kc1,.slice va1 vn1 vc1,.slice oa1 on1 oc1,.slice ya1 yn1 yc1]] W10.drew fun e w7=>∃ lf3 pg3 ka3 kn3 kc3 va3 vn3 vc3 oa3 on3 oc3 ya3 yn3 yc3,e=.returned (.agg #[.bool lf3,.int .i64 pg3,.slice ka3 kn3 kc3,.slice va3 vn3 vc3,.slice oa3 on3 oc3,.slice ya3 yn3 yc3])∧Below W10.heap.size W10 w7∧b<w7.heap.size∧(Six w7 b (m*6) lfd pgd kad knd kcd vad vnd vcd oad ond ocd yad ynd ycd∧∀ k,w7.frozen? ⟨b,k,none⟩=false)∧Hid (((put6at w7 b (m*6) (.bool lf3) (.int .i64 pg3) (.slice ka3 kn3 kc3) (.slice va3 vn3 vc3) (.slice oa3 on3 oc3) (.slice ya3 yn3 yc3)).heap[α]?=W10.heap[α]?∧α<(put6at w7 b (m*6) (.bool lf3) (.int .i64 pg3) (.slice ka3 kn3 kc3) (.slice va3 vn3 vc3) (.slice oa3 on3 oc3) (.slice ya3 yn3 yc3)).heap.size)∧(put6at w7 b (m*6) (.bool lf3) (.int .i64 pg3) (.slice ka3 kn3 kc3) (.slice va3 vn3 vc3) (.slice oa3 on3 oc3) (.slice ya3 yn3 yc3)).heap[α+1]?=some (.cells #[.bool lf2,.int .i64 pg2,.slice ka2 kn2 kc2,.slice va2 vn2 vc2,.slice oa2 on2 oc2,.slice ya2 yn2 yc2] 47)∧(Six (put6at w7 b (m*6) (.bool lf3) (.int .i64 pg3) (.slice ka3 kn3 kc3) (.slice va3 vn3 vc3) (.slice oa3 on3 oc3) (.slice ya3 yn3 yc3)) b ((m+1)*6) lfy pgy kay kny kcy vay vny vcy oay ony ocy yay yny ycy∧(∀ k,(put6at w7 b (m*6) (.bool lf3) (.int .i64 pg3) (.slice ka3 kn3 kc3) (.slice va3 vn3 vc3) (.slice oa3 on3 oc3) (.slice ya3 yn3 yc3)).frozen? ⟨b,k,none⟩=false)∧b<(put6at w7 b (m*6) (.bool lf3) (.int .i64 pg3) (.slice ka3 kn3 kc3) (.slice va3 vn3 vc3) (.slice oa3 on3 oc3) (.slice ya3 yn3 yc3)).heap.size)∧SL (put6at (put6at w7 b (m*6) (.bool lf3) (.int .i64 pg3) (.slice ka3 kn3 kc3) (.slice va3 vn3 vc3) (.slice oa3 on3 oc3) (.slice ya3 yn3 yc3)) b ((m+1)*6) (.bool lf2) (.int .i64 pg2) (.slice ka2 kn2 kc2) (.slice va2 vn2 vc2) (.slice oa2 on2 oc2) (.slice ya2 yn2 yc2)) (fun g=>Q g∨base<=g) ((ys.set m (glueT d (y.fore 1))).set (m+1) (y.rest 1)) (.slice (some ⟨b,0,none⟩) n c)∧Below base w (put6at (put6at w7 b (m*6) (.bool lf3) (.int .i64 pg3) (.slice ka3 kn3 kc3) (.slice va3 vn3 vc3) (.slice oa3 on3 oc3) (.slice ya3 yn3 yc3)) b ((m+1)*6) (.bool lf2) (.int .i64 pg2) (.slice ka2 kn2 kc2) (.slice va2 vn2 vc2) (.slice oa2 on2 oc2) (.slice ya2 yn2 yc2)))):=by
   refine hgl.mono ?_
   rintro e w7 ⟨v7,rfl,hS7,hb7'⟩
   have hb7:Below W10.heap.size W10 w7:=bD.trans hb7'
   obtain⟨lf3,pg3,ka3,kn3,kc3,va3,vn3,vc3,oa3,on3,oc3,ya3,yn3,yc3,rfl⟩:=hS7.letters
   have s7:=hb7.size
   have O7:OL w7 base (fun g=>Q g∨w.heap.size<=g) ys b c css:=O10.below hb7 (fun _ h=>h) offC
   have hS7':SN w7 (fun g=>Q g∨w.heap.size<=g) (glueT d (y.fore 1)) (.agg #[.bool lf3,.int .i64 pg3,.slice ka3 kn3 kc3,.slice va3 vn3 vc3,.slice oa3 on3 oc3,.slice ya3 yn3 yc3]):=hS7.mono (fun g hg=>hg.elim id (fun h=>.inr (by have h':W10.heap.size<=g:=h;omega)))
   have c6d7:Six w7 b (m*6) lfd pgd kad knd kcd vad vnd vcd oad ond ocd yad ynd ycd:=(CD.out.keep (b10.block b lb)).keep (hb7.block b lb10)
   have hR7:=hR1.below hb7
   obtain⟨⟨css8,O8⟩,f8⟩:=O7.set (i:=m) (by rw[HNN.out];omega) hS7'
   have hy8:(ys.set m (glueT d (y.fore 1)))[m+1]?=some y:=by rw[List.getElem?_set_ne (by omega)];exact HX.out.2.1
   have hc8:=hbtw O8 hy8 (f8:=f8) (O7:=O7) HX.out.2.1 ((CY.out.keep (b10.block b lb)).keep (hb7.block b lb10))
   have kα8:=(f8.block α (by omega) (fun e=>by omega)).trans (hb7.block α lα)
   have kβ8:=((f8.block (α+1) (by omega) (fun e=>by omega)).trans (hb7.block (α+1) lβ)).trans kβ
   have hR8:SN _ (fun g=>Q g∨w.heap.size<=g) (y.rest 1) (.agg #[.bool lf2,.int .i64 pg2,.slice ka2 kn2 kc2,.slice va2 vn2 vc2,.slice oa2 on2 oc2,.slice ya2 yn2 yc2]):=hR7.keep (fun g hg hl=>f8.block g hl (fun e=>offC (e ▸ hg))) (fun _ h=>h) f8.size
   have s8:=f8.size
   have B8:Below base w _:=(Bw.trans (hb7.mono (by omega))).trans (f8.below (by omega) (fun g e=>by omega))
   have fz8:=O8.thaw
   obtain⟨t1,t2⟩:=two_fin (Q:=Q) O8 hR8 (by rw[HNN.out];omega) (fun g hg=>hg.imp id (fun h=>by omega)) HNN.out B8 (by omega)
   have hsX:b<(put6at w7 b (m*6) (.bool lf3) (.int .i64 pg3) (.slice ka3 kn3 kc3) (.slice va3 vn3 vc3) (.slice oa3 on3 oc3) (.slice ya3 yn3 yc3)).heap.size:=by omega
   have hαX:α<(put6at w7 b (m*6) (.bool lf3) (.int .i64 pg3) (.slice ka3 kn3 kc3) (.slice va3 vn3 vc3) (.slice oa3 on3 oc3) (.slice ya3 yn3 yc3)).heap.size:=by omega
   have hbw7:b<w7.heap.size:=by omega
   exact⟨lf3,pg3,ka3,kn3,kc3,va3,vn3,vc3,oa3,on3,oc3,ya3,yn3,yc3,rfl,hb7,hbw7,⟨c6d7,O7.thaw⟩,⟨kα8,hαX⟩,kβ8,⟨hc8,fz8,hsX⟩,t1,t2⟩
  clear hgl hp hA hR hA1 hR1 hSD bD O10 q0 q1 q2 q3 q4 q5 b10 hb9 bW10 Bw hα s9
  refine wp_region_noPanic ?_
  refine wp_region_held_drew (S:=(fun w':World=>w'.heap[α]?=W10.heap[α]?∧α<w'.heap.size)) (by kernel_rfl) (⟨rfl,lα⟩) (fun hHeld=>?_)
  refine tY 0 (.slice (some ⟨b,0,none⟩) n c) .z (by kernel_rfl) (by rfl) ?_ ‹_› ?_
  ·intro wq hSw;go_simp
  refine tY 1 (.int .i64 (m:Int)) (.s .z) (by kernel_rfl) (by rfl) ?_ ‹_› ?_
  ·intro wq hSw;go_simp
  refine tY 2 (.slice (some ⟨b,0,none⟩) n c) (.s (.s .z)) (by kernel_rfl) (by rfl) ?_ ‹_› ?_
  ·intro wq hSw;go_simp
  refine tY 3 (.int .i64 (m:Int)) (.s (.s (.s .z))) (by kernel_rfl) (by rfl) ?_ ‹_› ?_
  ·intro wq hSw;go_simp
  try simp only[Act.put,q1,q2,q3]
  refine tY 4 (.pointer (some ⟨b,m*6,none⟩)) (.s (.s (.s (.s .z)))) (by kernel_rfl) (by rfl) ?_ ‹_› ?_
  ·intro wq hSw;go_simp;intro hh;omega
  refine tY 6 (.agg #[.bool lf1,.int .i64 pg1,.slice ka1 kn1 kc1,.slice va1 vn1 vc1,.slice oa1 on1 oc1,.slice ya1 yn1 yc1]) (.f (.s .z)) (by kernel_rfl) (by rfl) ?_ ‹_› ?_
  ·intro wq hSw;(try dsimp only at hSw);obtain⟨y0,y1,y2,y3,y4,y5⟩:=(box_six kα).keep hSw.1;have lq:=hSw.2;(try simp only[Nat.zero_add] at y0 y1 y2 y3 y4 y5);go_simp
  try simp only[Act.put,q1,q2,q3]
  refine wpAnyH_ready (rs:=[5]) (by kernel_rfl) (by simp) ?_
  refine rdA (.f .z) (fun K hK=>?_) AllReadyH.nil
  obtain⟨y0,y1,y2,y3,y4,y5⟩:=C6D.out
  have lb5:b<W10.drew.heap.size:=lb10
  go_simp
  clear y0 y1 y2 y3 y4 y5 lb5
  refine hK.out _ _ (⟨rfl,lα⟩) (fun hHeld=>?_)
  clear hK K
  try simp only[Act.put,q1,q2,q3]
  refine wpAnyH_ready (rs:=[7]) (by kernel_rfl) (by simp) ?_
  refine rdA (.f (.s (.s .z))) (fun K hK=>?_) AllReadyH.nil
  go_simp
  refine HGL.out.mono ?_
  rintro e w7 ⟨lf3,pg3,ka3,kn3,kc3,va3,vn3,vc3,oa3,on3,oc3,ya3,yn3,yc3,rfl,hb7,lb7,ft7,hfin⟩
  go_wp2_with fail
  have s7:=hb7.size
  refine hK.out _ _ (⟨hb7.block α lα,by omega⟩) (fun hHeld=>?_)
  clear hK K
  refine tY 8 (.pointer (some ⟨b,m*6,none⟩)) (.f (.s (.s (.s .z)))) (by kernel_rfl) (by rfl) ?_ ‹_› ?_
  ·intro wq hSw;go_simp;intro hh;omega
  try simp only[Act.put,q1,q2,q3]
  refine wpAnyH_ready (rs:=[9]) (by kernel_rfl) (by simp) ?_
  refine rdA (.f (.s (.s (.s (.s .z))))) (fun K hK=>?_) AllReadyH.nil
  obtain⟨g3,g4⟩:=hfin.out.1
  have HFIN:Hid _:=hfin.out.2
  clear hfin
  obtain⟨⟨y0,y1,y2,y3,y4,y5⟩,ff⟩:=ft7
  go_simp
  clear y0 y1 y2 y3 y4 y5 ff
  rw[put6at_eq]
  generalize put6at w7 b (m*6) (.bool lf3) (.int .i64 pg3) (.slice ka3 kn3 kc3) (.slice va3 vn3 vc3) (.slice oa3 on3 oc3) (.slice ya3 yn3 yc3)=X at HFIN g3 g4 ⊢
  refine hK.out _ _ (⟨g3,g4⟩) (fun hHeld=>?_)
  clear hK K
  try simp only[Act.put,q1,q2,q3]
  refine wpAnyH_done (by kernel_rfl) ?_ _
  refine NoPanic.normal ?_
  obtain⟨kβX,⟨⟨r0,r1,r2,r3,r4,r5⟩,fzX,lbX⟩,hslX,hbX⟩:=HFIN.out
  have HF2:Hid (SL (put6at X b ((m+1)*6) (.bool lf2) (.int .i64 pg2) (.slice ka2 kn2 kc2) (.slice va2 vn2 vc2) (.slice oa2 on2 oc2) (.slice ya2 yn2 yc2)) (fun g=>Q g∨base<=g) ((ys.set m (glueT d (y.fore 1))).set (m+1) (y.rest 1)) (.slice (some ⟨b,0,none⟩) n c)∧Below base w (put6at X b ((m+1)*6) (.bool lf2) (.int .i64 pg2) (.slice ka2 kn2 kc2) (.slice va2 vn2 vc2) (.slice oa2 on2 oc2) (.slice ya2 yn2 yc2))):=⟨hslX,hbX⟩
  obtain⟨t0,t1,t2,t3,t4,t5⟩:=box6g kβX
  have lβX:=(Array.getElem?_eq_some_iff.1 kβX).1
  clear HFIN hslX hbX kβX hHeld
  go_wp2_with fail
  go_ret
  exact⟨_,rfl,HF2.out.1,HF2.out.2⟩
 ·obtain⟨lfx,pgx,kax,knx,kcx,vax,vnx,vcx,oax,onx,ocx,yax,ynx,ycx,hSx,c6x⟩:=h.at hx
  have hpos:(0:Int)<(m:Int):=by omega
  have hm1:(m:Int) - 1=(j:Int):=by omega
  have hjn:j<n:=by omega
  obtain⟨sx,hsx⟩:∃ sx,x.size=sx:=⟨_,rfl⟩
  have hszx:=size_SN hSx w
  rw[hsx] at hszx
  have hnx:¬ ((2:Int)<(sx:Int)):=by omega
  clear hd hy hy2 hy4 hd4 ld ly hn hnn hcap hSx hsy hx hxs h hmj hsx
  obtain⟨p0,p1,p2,p3,p4,p5⟩:=c6x
  go_enter Tryz.func35,Tryz.ntmps35
  go_wp2_with fail
  refine hszx.mono ?_
  rintro e V ⟨rfl,bV⟩
  have sV:=bV.size
  have OLW:Hid (OL V base Q ys b c css):=HOL.out.below bV (fun _ h=>h) HOL.out.off
  have CY:Hid (Six V b ((m+1)*6) lfy pgy kay kny kcy vay vny vcy oay ony ocy yay yny ycy):=c6y.keep (bV.block b lbw)
  have CD:Hid (Six V b (m*6) lfd pgd kad knd kcd vad vnd vcd oad ond ocd yad ynd ycd):=c6d.keep (bV.block b lbw)
  have SY:Hid (SN V Q y (.agg #[.bool lfy,.int .i64 pgy,.slice kay kny kcy,.slice vay vny vcy,.slice oay ony ocy,.slice yay yny ycy])):=hSy.below bV
  have SD:Hid (SN V Q d (.agg #[.bool lfd,.int .i64 pgd,.slice kad knd kcd,.slice vad vnd vcd,.slice oad ond ocd,.slice yad ynd ycd])):=hSd.below bV
  have BW:Hid (Below w.heap.size w V):=bV
  have lb:b<V.heap.size:=by omega
  have hbsW:base<=V.heap.size:=by omega
  clear p0 p1 p2 p3 p4 p5 c6y c6d hSd hSy hszx bV hm1
  obtain⟨p0,p1,p2,p3,p4,p5⟩:=CY.out
  go_wp2_with fail
  clear p0 p1 p2 p3 p4 p5
  refine (HSZ.out V).mono ?_
  rintro e V2 ⟨rfl,bV2⟩
  have sV2:=bV2.size
  have hp:=l3Part_any (SY.out.below bV2) HX.out.2.2.2.1.slim 1 (by have:=HX.out.2.2.2.2.1;omega) (by have:=HX.out.2.2.2.2.2.1;omega)
  obtain⟨q0,q1,q2,q3,q4,q5⟩:=CY.out.keep (bV2.block b lb)
  have lb2:b<V2.heap.size:=by omega
  go_upto_region 10 with (go_at_call 31;refine hp.mono ?_;rintro e w9 ⟨v1,v2,rfl,hA,hR,hb9⟩;obtain⟨lf1,pg1,ka1,kn1,kc1,va1,vn1,vc1,oa1,on1,oc1,ya1,yn1,yc1,rfl⟩:=hA.letters;obtain⟨lf2,pg2,ka2,kn2,kc2,va2,vn2,vc2,oa2,on2,oc2,ya2,yn2,yc2,rfl⟩:=hR.letters)
  have al:=alloc2N w9 (.cells #[.bool lf1,.int .i64 pg1,.slice ka1 kn1 kc1,.slice va1 vn1 vc1,.slice oa1 on1 oc1,.slice ya1 yn1 yc1] 47) (.cells #[.bool lf2,.int .i64 pg2,.slice ka2 kn2 kc2,.slice va2 vn2 vc2,.slice oa2 on2 oc2,.slice ya2 yn2 yc2] 47)
  generalize (w9.alloc (.cells #[.bool lf1,.int .i64 pg1,.slice ka1 kn1 kc1,.slice va1 vn1 vc1,.slice oa1 on1 oc1,.slice ya1 yn1 yc1] 47)).alloc (.cells #[.bool lf2,.int .i64 pg2,.slice ka2 kn2 kc2,.slice va2 vn2 vc2,.slice oa2 on2 oc2,.slice ya2 yn2 yc2] 47)=W10 at al ⊢
  obtain⟨kα,kβ,sW10,bW10⟩:=al
  have s9:=hb9.size
  have b10:Below V.heap.size V W10:=bV2.trans ((hb9.trans (bW10.mono s9)).mono sV2)
  have hqm:∀ g,(Q g∨V2.heap.size<=g)->(Q g∨V.heap.size<=g):=fun g h=>h.imp id (fun h=>by omega)
  have hA1:SN W10 (fun g=>Q g∨V.heap.size<=g) (y.fore 1) (.agg #[.bool lf1,.int .i64 pg1,.slice ka1 kn1 kc1,.slice va1 vn1 vc1,.slice oa1 on1 oc1,.slice ya1 yn1 yc1]):=(hA.below bW10).mono hqm
  have hR1:SN W10 (fun g=>Q g∨V.heap.size<=g) (y.rest 1) (.agg #[.bool lf2,.int .i64 pg2,.slice ka2 kn2 kc2,.slice va2 vn2 vc2,.slice oa2 on2 oc2,.slice ya2 yn2 yc2]):=(hR.below bW10).mono hqm
  obtain⟨α,hα⟩:∃ α,w9.heap.size=α:=⟨_,rfl⟩
  rw[hα] at kα kβ sW10 ⊢
  have hαW:V.heap.size<=α:=by omega
  have lα:α<W10.heap.size:=by omega
  have lβ:α+1<W10.heap.size:=by omega
  have offC:¬ (Q b∨V.heap.size<=b):=fun e=>e.elim OLW.out.off (fun e=>by omega)
  have O10:OL W10 base (fun g=>Q g∨V.heap.size<=g) ys b c css:=OLW.out.below b10 (fun g h=>.inl h) offC
  have lb10:b<W10.heap.size:=by omega
  have C6D:Hid (Six W10.drew b (m*6) lfd pgd kad knd kcd vad vnd vcd oad ond ocd yad ynd ycd):=(CD.out.keep (b10.block b lb)).keep rfl
  have bD:Below W10.heap.size W10 W10.drew:=(Below.refl _ _).drew
  have hSD:SN W10 (fun g=>Q g∨V.heap.size<=g) d (.agg #[.bool lfd,.int .i64 pgd,.slice kad knd kcd,.slice vad vnd vcd,.slice oad ond ocd,.slice yad ynd ycd]):=(SD.out.below b10).mono (fun g h=>.inl h)
  have hgl:=l3Glue_any (hSD.below bD) (hA1.below bD) (lens_le HX.out.2.2.1 (by have:=HX.out.2.2.2.2.2.2;omega)) (lens_le (HX.out.2.2.2.1.fore 1) (by have:=(size_rest (x:=y) 1).2;have:=HX.out.2.2.2.2.2.1;omega))
  have Bw:Below base w W10:=(BW.out.mono hbs).trans (b10.mono hbsW)
  have HGL:Hid (Calls Tryz.prog 32 #[.agg #[.bool lfd,.int .i64 pgd,.slice kad knd kcd,.slice vad vnd vcd,.slice oad ond ocd,.slice yad ynd ycd],.agg #[.bool lf1,.int .i64 pg1,.slice ka1 kn1 kc1,.slice va1 vn1 vc1,.slice oa1 on1 oc1,.slice ya1 yn1 yc1]] W10.drew fun e w7=>∃ lf3 pg3 ka3 kn3 kc3 va3 vn3 vc3 oa3 on3 oc3 ya3 yn3 yc3,e=.returned (.agg #[.bool lf3,.int .i64 pg3,.slice ka3 kn3 kc3,.slice va3 vn3 vc3,.slice oa3 on3 oc3,.slice ya3 yn3 yc3])∧Below W10.heap.size W10 w7∧b<w7.heap.size∧(Six w7 b (m*6) lfd pgd kad knd kcd vad vnd vcd oad ond ocd yad ynd ycd∧∀ k,w7.frozen? ⟨b,k,none⟩=false)∧Hid (((put6at w7 b (m*6) (.bool lf3) (.int .i64 pg3) (.slice ka3 kn3 kc3) (.slice va3 vn3 vc3) (.slice oa3 on3 oc3) (.slice ya3 yn3 yc3)).heap[α]?=W10.heap[α]?∧α<(put6at w7 b (m*6) (.bool lf3) (.int .i64 pg3) (.slice ka3 kn3 kc3) (.slice va3 vn3 vc3) (.slice oa3 on3 oc3) (.slice ya3 yn3 yc3)).heap.size)∧(put6at w7 b (m*6) (.bool lf3) (.int .i64 pg3) (.slice ka3 kn3 kc3) (.slice va3 vn3 vc3) (.slice oa3 on3 oc3) (.slice ya3 yn3 yc3)).heap[α+1]?=some (.cells #[.bool lf2,.int .i64 pg2,.slice ka2 kn2 kc2,.slice va2 vn2 vc2,.slice oa2 on2 oc2,.slice ya2 yn2 yc2] 47)∧(Six (put6at w7 b (m*6) (.bool lf3) (.int .i64 pg3) (.slice ka3 kn3 kc3) (.slice va3 vn3 vc3) (.slice oa3 on3 oc3) (.slice ya3 yn3 yc3)) b ((m+1)*6) lfy pgy kay kny kcy vay vny vcy oay ony ocy yay yny ycy∧(∀ k,(put6at w7 b (m*6) (.bool lf3) (.int .i64 pg3) (.slice ka3 kn3 kc3) (.slice va3 vn3 vc3) (.slice oa3 on3 oc3) (.slice ya3 yn3 yc3)).frozen? ⟨b,k,none⟩=false)∧b<(put6at w7 b (m*6) (.bool lf3) (.int .i64 pg3) (.slice ka3 kn3 kc3) (.slice va3 vn3 vc3) (.slice oa3 on3 oc3) (.slice ya3 yn3 yc3)).heap.size)∧SL (put6at (put6at w7 b (m*6) (.bool lf3) (.int .i64 pg3) (.slice ka3 kn3 kc3) (.slice va3 vn3 vc3) (.slice oa3 on3 oc3) (.slice ya3 yn3 yc3)) b ((m+1)*6) (.bool lf2) (.int .i64 pg2) (.slice ka2 kn2 kc2) (.slice va2 vn2 vc2) (.slice oa2 on2 oc2) (.slice ya2 yn2 yc2)) (fun g=>Q g∨base<=g) ((ys.set m (glueT d (y.fore 1))).set (m+1) (y.rest 1)) (.slice (some ⟨b,0,none⟩) n c)∧Below base w (put6at (put6at w7 b (m*6) (.bool lf3) (.int .i64 pg3) (.slice ka3 kn3 kc3) (.slice va3 vn3 vc3) (.slice oa3 on3 oc3) (.slice ya3 yn3 yc3)) b ((m+1)*6) (.bool lf2) (.int .i64 pg2) (.slice ka2 kn2 kc2) (.slice va2 vn2 vc2) (.slice oa2 on2 oc2) (.slice ya2 yn2 yc2)))):=by
   refine hgl.mono ?_
   rintro e w7 ⟨v7,rfl,hS7,hb7'⟩
   have hb7:Below W10.heap.size W10 w7:=bD.trans hb7'
   obtain⟨lf3,pg3,ka3,kn3,kc3,va3,vn3,vc3,oa3,on3,oc3,ya3,yn3,yc3,rfl⟩:=hS7.letters
   have s7:=hb7.size
   have O7:OL w7 base (fun g=>Q g∨V.heap.size<=g) ys b c css:=O10.below hb7 (fun _ h=>h) offC
   have hS7':SN w7 (fun g=>Q g∨V.heap.size<=g) (glueT d (y.fore 1)) (.agg #[.bool lf3,.int .i64 pg3,.slice ka3 kn3 kc3,.slice va3 vn3 vc3,.slice oa3 on3 oc3,.slice ya3 yn3 yc3]):=hS7.mono (fun g hg=>hg.elim id (fun h=>.inr (by have h':W10.heap.size<=g:=h;omega)))
   have c6d7:Six w7 b (m*6) lfd pgd kad knd kcd vad vnd vcd oad ond ocd yad ynd ycd:=(CD.out.keep (b10.block b lb)).keep (hb7.block b lb10)
   have hR7:=hR1.below hb7
   obtain⟨⟨css8,O8⟩,f8⟩:=O7.set (i:=m) (by rw[HNN.out];omega) hS7'
   have hy8:(ys.set m (glueT d (y.fore 1)))[m+1]?=some y:=by rw[List.getElem?_set_ne (by omega)];exact HX.out.2.1
   have hc8:=hbtw O8 hy8 (f8:=f8) (O7:=O7) HX.out.2.1 ((CY.out.keep (b10.block b lb)).keep (hb7.block b lb10))
   have kα8:=(f8.block α (by omega) (fun e=>by omega)).trans (hb7.block α lα)
   have kβ8:=((f8.block (α+1) (by omega) (fun e=>by omega)).trans (hb7.block (α+1) lβ)).trans kβ
   have hR8:SN _ (fun g=>Q g∨V.heap.size<=g) (y.rest 1) (.agg #[.bool lf2,.int .i64 pg2,.slice ka2 kn2 kc2,.slice va2 vn2 vc2,.slice oa2 on2 oc2,.slice ya2 yn2 yc2]):=hR7.keep (fun g hg hl=>f8.block g hl (fun e=>offC (e ▸ hg))) (fun _ h=>h) f8.size
   have s8:=f8.size
   have B8:Below base w _:=(Bw.trans (hb7.mono (by omega))).trans (f8.below (by omega) (fun g e=>by omega))
   have fz8:=O8.thaw
   obtain⟨t1,t2⟩:=two_fin (Q:=Q) O8 hR8 (by rw[HNN.out];omega) (fun g hg=>hg.imp id (fun h=>by omega)) HNN.out B8 (by omega)
   have hsX:b<(put6at w7 b (m*6) (.bool lf3) (.int .i64 pg3) (.slice ka3 kn3 kc3) (.slice va3 vn3 vc3) (.slice oa3 on3 oc3) (.slice ya3 yn3 yc3)).heap.size:=by omega
   have hαX:α<(put6at w7 b (m*6) (.bool lf3) (.int .i64 pg3) (.slice ka3 kn3 kc3) (.slice va3 vn3 vc3) (.slice oa3 on3 oc3) (.slice ya3 yn3 yc3)).heap.size:=by omega
   have hbw7:b<w7.heap.size:=by omega
   exact⟨lf3,pg3,ka3,kn3,kc3,va3,vn3,vc3,oa3,on3,oc3,ya3,yn3,yc3,rfl,hb7,hbw7,⟨c6d7,O7.thaw⟩,⟨kα8,hαX⟩,kβ8,⟨hc8,fz8,hsX⟩,t1,t2⟩
  clear hgl hp hA hR hA1 hR1 hSD bD O10 q0 q1 q2 q3 q4 q5 b10 hb9 bW10 Bw hα s9
  refine wp_region_noPanic ?_
  refine wp_region_held_drew (S:=(fun w':World=>w'.heap[α]?=W10.heap[α]?∧α<w'.heap.size)) (by kernel_rfl) (⟨rfl,lα⟩) (fun hHeld=>?_)
  refine tY 0 (.slice (some ⟨b,0,none⟩) n c) .z (by kernel_rfl) (by rfl) ?_ ‹_› ?_
  ·intro wq hSw;go_simp
  refine tY 1 (.int .i64 (m:Int)) (.s .z) (by kernel_rfl) (by rfl) ?_ ‹_› ?_
  ·intro wq hSw;go_simp
  refine tY 2 (.slice (some ⟨b,0,none⟩) n c) (.s (.s .z)) (by kernel_rfl) (by rfl) ?_ ‹_› ?_
  ·intro wq hSw;go_simp
  refine tY 3 (.int .i64 (m:Int)) (.s (.s (.s .z))) (by kernel_rfl) (by rfl) ?_ ‹_› ?_
  ·intro wq hSw;go_simp
  try simp only[Act.put,q1,q2,q3]
  refine tY 4 (.pointer (some ⟨b,m*6,none⟩)) (.s (.s (.s (.s .z)))) (by kernel_rfl) (by rfl) ?_ ‹_› ?_
  ·intro wq hSw;go_simp;intro hh;omega
  refine tY 6 (.agg #[.bool lf1,.int .i64 pg1,.slice ka1 kn1 kc1,.slice va1 vn1 vc1,.slice oa1 on1 oc1,.slice ya1 yn1 yc1]) (.f (.s .z)) (by kernel_rfl) (by rfl) ?_ ‹_› ?_
  ·intro wq hSw;(try dsimp only at hSw);obtain⟨y0,y1,y2,y3,y4,y5⟩:=(box_six kα).keep hSw.1;have lq:=hSw.2;(try simp only[Nat.zero_add] at y0 y1 y2 y3 y4 y5);go_simp
  try simp only[Act.put,q1,q2,q3]
  refine wpAnyH_ready (rs:=[5]) (by kernel_rfl) (by simp) ?_
  refine rdA (.f .z) (fun K hK=>?_) AllReadyH.nil
  obtain⟨y0,y1,y2,y3,y4,y5⟩:=C6D.out
  have lb5:b<W10.drew.heap.size:=lb10
  go_simp
  clear y0 y1 y2 y3 y4 y5 lb5
  refine hK.out _ _ (⟨rfl,lα⟩) (fun hHeld=>?_)
  clear hK K
  try simp only[Act.put,q1,q2,q3]
  refine wpAnyH_ready (rs:=[7]) (by kernel_rfl) (by simp) ?_
  refine rdA (.f (.s (.s .z))) (fun K hK=>?_) AllReadyH.nil
  go_simp
  refine HGL.out.mono ?_
  rintro e w7 ⟨lf3,pg3,ka3,kn3,kc3,va3,vn3,vc3,oa3,on3,oc3,ya3,yn3,yc3,rfl,hb7,lb7,ft7,hfin⟩
  go_wp2_with fail
  have s7:=hb7.size
  refine hK.out _ _ (⟨hb7.block α lα,by omega⟩) (fun hHeld=>?_)
  clear hK K
  refine tY 8 (.pointer (some ⟨b,m*6,none⟩)) (.f (.s (.s (.s .z)))) (by kernel_rfl) (by rfl) ?_ ‹_› ?_
  ·intro wq hSw;go_simp;intro hh;omega
  try simp only[Act.put,q1,q2,q3]
  refine wpAnyH_ready (rs:=[9]) (by kernel_rfl) (by simp) ?_
  refine rdA (.f (.s (.s (.s (.s .z))))) (fun K hK=>?_) AllReadyH.nil
  obtain⟨g3,g4⟩:=hfin.out.1
  have HFIN:Hid _:=hfin.out.2
  clear hfin
  obtain⟨⟨y0,y1,y2,y3,y4,y5⟩,ff⟩:=ft7
  go_simp
  clear y0 y1 y2 y3 y4 y5 ff
  rw[put6at_eq]
  generalize put6at w7 b (m*6) (.bool lf3) (.int .i64 pg3) (.slice ka3 kn3 kc3) (.slice va3 vn3 vc3) (.slice oa3 on3 oc3) (.slice ya3 yn3 yc3)=X at HFIN g3 g4 ⊢
  refine hK.out _ _ (⟨g3,g4⟩) (fun hHeld=>?_)
  clear hK K
  try simp only[Act.put,q1,q2,q3]
  refine wpAnyH_done (by kernel_rfl) ?_ _
  refine NoPanic.normal ?_
  obtain⟨kβX,⟨⟨r0,r1,r2,r3,r4,r5⟩,fzX,lbX⟩,hslX,hbX⟩:=HFIN.out
  have HF2:Hid (SL (put6at X b ((m+1)*6) (.bool lf2) (.int .i64 pg2) (.slice ka2 kn2 kc2) (.slice va2 vn2 vc2) (.slice oa2 on2 oc2) (.slice ya2 yn2 yc2)) (fun g=>Q g∨base<=g) ((ys.set m (glueT d (y.fore 1))).set (m+1) (y.rest 1)) (.slice (some ⟨b,0,none⟩) n c)∧Below base w (put6at X b ((m+1)*6) (.bool lf2) (.int .i64 pg2) (.slice ka2 kn2 kc2) (.slice va2 vn2 vc2) (.slice oa2 on2 oc2) (.slice ya2 yn2 yc2))):=⟨hslX,hbX⟩
  obtain⟨t0,t1,t2,t3,t4,t5⟩:=box6g kβX
  have lβX:=(Array.getElem?_eq_some_iff.1 kβX).1
  clear HFIN hslX hbX kβX hHeld
  go_wp2_with fail
  go_ret
  exact⟨_,rfl,HF2.out.1,HF2.out.2⟩
end Go.Proofs.YtbfggcekifaldaaGreat
