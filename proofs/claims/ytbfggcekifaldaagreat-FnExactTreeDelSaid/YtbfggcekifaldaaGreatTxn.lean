import Derived.Test.YtbfggcekifaldaaGreatTks
import Derived.Test.YtbfggcekifaldaaGreatTxm
namespace Go.Proofs.YtbfggcekifaldaaGreat
open Go.RowKit
set_option linter.unusedVariables false
set_option linter.unusedSimpArgs false
set_option maxRecDepth 100000
theorem put6at_eq (w:World) (b o:Nat) (u0 u1 u2 u3 u4 u5:Value):(((((w.setCell ⟨b,o,none⟩ u0).setCell ⟨b,o+1,none⟩ u1).setCell ⟨b,o+2,none⟩ u2).setCell ⟨b,o+3,none⟩ u3).setCell ⟨b,o+4,none⟩ u4).setCell ⟨b,o+5,none⟩ u5=put6at w b o u0 u1 u2 u3 u4 u5:=rfl
def PartBox (V wx:World) (Q:Nat->Prop) (x1 x2:T) (α β:Nat):Prop:=∃ lf1 pg1 ka1 kn1 kc1 va1 vn1 vc1 oa1 on1 oc1 ya1 yn1 yc1 lf2 pg2 ka2 kn2 kc2 va2 vn2 vc2 oa2 on2 oc2 ya2 yn2 yc2,V.heap.size<=α∧wx.heap[α]?=some (.cells #[.bool lf1,.int .i64 pg1,.slice ka1 kn1 kc1,.slice va1 vn1 vc1,.slice oa1 on1 oc1,.slice ya1 yn1 yc1] 47)∧V.heap.size<=β∧wx.heap[β]?=some (.cells #[.bool lf2,.int .i64 pg2,.slice ka2 kn2 kc2,.slice va2 vn2 vc2,.slice oa2 on2 oc2,.slice ya2 yn2 yc2] 47)∧SN wx (fun g=>Q g∨V.heap.size<=g) x1 (.agg #[.bool lf1,.int .i64 pg1,.slice ka1 kn1 kc1,.slice va1 vn1 vc1,.slice oa1 on1 oc1,.slice ya1 yn1 yc1])∧SN wx (fun g=>Q g∨V.heap.size<=g) x2 (.agg #[.bool lf2,.int .i64 pg2,.slice ka2 kn2 kc2,.slice va2 vn2 vc2,.slice oa2 on2 oc2,.slice ya2 yn2 yc2])∧Below V.heap.size V wx
theorem partBox {V w10 W:World} {Q:Nat->Prop} {x1 x2:T} {Wc α β:Nat} {lf1:Bool} {pg1:Int} {ka1:Option Addr} {kn1 kc1:Nat} {va1:Option Addr} {vn1 vc1:Nat} {oa1:Option Addr} {on1 oc1:Nat} {ya1:Option Addr} {yn1 yc1:Nat} {lf2:Bool} {pg2:Int} {ka2:Option Addr} {kn2 kc2:Nat} {va2:Option Addr} {vn2 vc2:Nat} {oa2:Option Addr} {on2 oc2:Nat} {ya2:Option Addr} {yn2 yc2:Nat} (hQ:∀ g,Q g->g<V.heap.size) (hVc:V.heap.size<=Wc) (hA:SN w10 (fun g=>Q g∨Wc<=g) x1 (.agg #[.bool lf1,.int .i64 pg1,.slice ka1 kn1 kc1,.slice va1 vn1 vc1,.slice oa1 on1 oc1,.slice ya1 yn1 yc1])) (hR:SN w10 (fun g=>Q g∨Wc<=g) x2 (.agg #[.bool lf2,.int .i64 pg2,.slice ka2 kn2 kc2,.slice va2 vn2 vc2,.slice oa2 on2 oc2,.slice ya2 yn2 yc2])) (h10:Below w10.heap.size w10 W) (hbc:Below V.heap.size V W) (kα:W.heap[α]?=some (.cells #[.bool false,.int .i64 0,.slice none 0 0,.slice none 0 0,.slice none 0 0,.slice none 0 0] 47)) (kβ:W.heap[β]?=some (.cells #[.bool false,.int .i64 0,.slice none 0 0,.slice none 0 0,.slice none 0 0,.slice none 0 0] 47)) (hα:V.heap.size<=α) (hβ:V.heap.size<=β) (hαβ:α≠β) (nα:∀ g,(Q g∨Wc<=g)->g<w10.heap.size->g≠α) (nβ:∀ g,(Q g∨Wc<=g)->g<w10.heap.size->g≠β) :
  (put6T W α (.bool lf1) (.int .i64 pg1) (.slice ka1 kn1 kc1) (.slice va1 vn1 vc1) (.slice oa1 on1 oc1) (.slice ya1 yn1 yc1)).heap[β]?=some (.cells #[.bool false,.int .i64 0,.slice none 0 0,.slice none 0 0,.slice none 0 0,.slice none 0 0] 47)∧Below V.heap.size V (put6T W α (.bool lf1) (.int .i64 pg1) (.slice ka1 kn1 kc1) (.slice va1 vn1 vc1) (.slice oa1 on1 oc1) (.slice ya1 yn1 yc1))∧PartBox V (put6T (put6T W α (.bool lf1) (.int .i64 pg1) (.slice ka1 kn1 kc1) (.slice va1 vn1 vc1) (.slice oa1 on1 oc1) (.slice ya1 yn1 yc1)) β (.bool lf2) (.int .i64 pg2) (.slice ka2 kn2 kc2) (.slice va2 vn2 vc2) (.slice oa2 on2 oc2) (.slice ya2 yn2 yc2)) Q x1 x2 α β:=by
 have f1:=put6T_fr W α (.bool lf1) (.int .i64 pg1) (.slice ka1 kn1 kc1) (.slice va1 vn1 vc1) (.slice oa1 on1 oc1) (.slice ya1 yn1 yc1)
 have k1:=put6T_box kα (.bool lf1) (.int .i64 pg1) (.slice ka1 kn1 kc1) (.slice va1 vn1 vc1) (.slice oa1 on1 oc1) (.slice ya1 yn1 yc1)
 have lβ:=(Array.getElem?_eq_some_iff.1 kβ).1
 have lα:=(Array.getElem?_eq_some_iff.1 kα).1
 have kβ1:=(f1.block β lβ (fun e=>hαβ e.symm)).trans kβ
 generalize put6T W α (.bool lf1) (.int .i64 pg1) (.slice ka1 kn1 kc1) (.slice va1 vn1 vc1) (.slice oa1 on1 oc1) (.slice ya1 yn1 yc1)=X at f1 k1 kβ1 ⊢
 have f2:=put6T_fr X β (.bool lf2) (.int .i64 pg2) (.slice ka2 kn2 kc2) (.slice va2 vn2 vc2) (.slice oa2 on2 oc2) (.slice ya2 yn2 yc2)
 have k2:=put6T_box kβ1 (.bool lf2) (.int .i64 pg2) (.slice ka2 kn2 kc2) (.slice va2 vn2 vc2) (.slice oa2 on2 oc2) (.slice ya2 yn2 yc2)
 have s1:=f1.size
 have b1:Below V.heap.size V X:=hbc.trans (f1.below hbc.size (fun g e=>by omega))
 refine⟨kβ1,b1,?_⟩
 have k12:=(f2.block α (by omega) (fun e=>hαβ e)).trans k1
 generalize put6T X β (.bool lf2) (.int .i64 pg2) (.slice ka2 kn2 kc2) (.slice va2 vn2 vc2) (.slice oa2 on2 oc2) (.slice ya2 yn2 yc2)=Y at f2 k2 k12 ⊢
 have s2:=f2.size
 have s10:=h10.size
 have hk:∀ g,(Q g∨Wc<=g)->g<w10.heap.size->Y.heap[g]?=w10.heap[g]?:=fun g h1 h2=>((f2.block g (by omega) (nβ g h1 h2)).trans (f1.block g (by omega) (nα g h1 h2))).trans (h10.block g h2)
 have hq:∀ g,(Q g∨Wc<=g)->(Q g∨V.heap.size<=g):=fun g h=>h.imp id (fun h=>by omega)
 exact⟨lf1,pg1,ka1,kn1,kc1,va1,vn1,vc1,oa1,on1,oc1,ya1,yn1,yc1,lf2,pg2,ka2,kn2,kc2,va2,vn2,vc2,oa2,on2,oc2,ya2,yn2,yc2,hα,k12,hβ,k2,hA.keep hk hq (by omega),hR.keep hk hq (by omega),b1.trans (f2.below b1.size (fun g e=>by omega))⟩
set_option maxHeartbeats 8000000 in
theorem mendS1 {w:World} {base:Nat} {Q:Nat->Prop} {ys:List T} {b c j s:Nat} {css:Nat->List Value} {x d:T} (h:OL w base Q ys b c css) (hbs:base<=w.heap.size) (hQ:∀ g,Q g->g<w.heap.size) (hn:ys.length<=1000) (hx:ys[j]?=some x) (hd:ys[j+1]?=some d) (hs:x.size=s+1) (h2:2<=s) (hs4:s<=400) (hd4:d.size<=400) (lx:Lens x) (ld:Lens d) :
  Calls Tryz.prog 35 #[.slice (some ⟨b,0,none⟩) ys.length c,.int .i64 ((j:Int)+1)] w fun e w'=>∃ v',e=.returned v'∧SL w' (fun g=>Q g∨base<=g) ((ys.set j (x.fore s)).set (j+1) (glueT (x.rest s) d)) v'∧Below base w w':=by
 obtain⟨n,hnn⟩:∃ n,ys.length=n:=⟨_,rfl⟩
 have HNN:Hid (ys.length=n):=hnn
 have hj:j+1<n:=by have:=(List.getElem?_eq_some_iff.1 hd).1;omega
 have hcap:n<=c∧c<=maxLen:=by
  rcases h.row.2 with ⟨e,e2⟩ | ⟨g,cap,cur,e,_,_,h3,h4,_⟩
  ·cases e
  ·simp only[Value.slice.injEq] at e;obtain⟨_,_,rfl⟩:=e;exact⟨by omega,h4⟩
 have hcc:=hcap.1
 have hcm:=hcap.2
 unfold maxLen at hcm
 obtain⟨lfx,pgx,kax,knx,kcx,vax,vnx,vcx,oax,onx,ocx,yax,ynx,ycx,hSx,c6⟩:=h.at hx
 have lb:=h.lt.2
 have hsz:=size_SN hSx w
 rw[hs] at hsz
 have HOL:Hid (OL w base Q ys b c css):=h
 have HX:Hid (ys[j]?=some x∧ys[j+1]?=some d∧Lens x∧Lens d∧x.size=s+1∧d.size<=400):=⟨hx,hd,lx,ld,hs,hd4⟩
 have HQ:Hid (∀ g,Q g->g<w.heap.size):=hQ
 have hgt:(2:Int)<((s+1:Nat):Int):=by omega
 rw[hnn]
 obtain⟨p0,p1,p2,p3,p4,p5⟩:=c6
 have C6W:Hid (Six w b (j*6) lfx pgx kax knx kcx vax vnx vcx oax onx ocx yax ynx ycx):=⟨p0,p1,p2,p3,p4,p5⟩
 have HSX:Hid (SN w Q x (.agg #[.bool lfx,.int .i64 pgx,.slice kax knx kcx,.slice vax vnx vcx,.slice oax onx ocx,.slice yax ynx ycx])):=hSx
 clear h hx hd hs hd4 lx ld hQ hn hnn hcap hSx
 go_enter Tryz.func35,Tryz.ntmps35
 go_wp2_with fail
 refine hsz.mono ?_
 rintro e V ⟨rfl,bV⟩
 have sV:=bV.size
 have HOLV:Hid (OL V base Q ys b c css):=HOL.out.below bV (fun _ h=>h) HOL.out.off
 have C6V:Hid (Six V b (j*6) lfx pgx kax knx kcx vax vnx vcx oax onx ocx yax ynx ycx):=C6W.out.keep (bV.block b lb)
 have HSXV:Hid (SN V Q x (.agg #[.bool lfx,.int .i64 pgx,.slice kax knx kcx,.slice vax vnx vcx,.slice oax onx ocx,.slice yax ynx ycx])):=HSX.out.below bV
 have HQV:Hid (∀ g,Q g->g<V.heap.size):=fun g hg=>by have:=HQ.out g hg;omega
 have HBV:Hid (Below w.heap.size w V):=bV
 have hbsV:base<=V.heap.size:=by omega
 have lbw:=lb
 replace lb:b<V.heap.size:=by omega
 clear hsz p0 p1 p2 p3 p4 p5 C6W HSX bV HQ HOL
 have HSZ:Hid (∀ W,Calls Tryz.prog 34 #[.agg #[.bool lfx,.int .i64 pgx,.slice kax knx kcx,.slice vax vnx vcx,.slice oax onx ocx,.slice yax ynx ycx]] W fun e w'=>e=.returned (.int .i64 ((s+1:Nat):Int))∧Below W.heap.size W w'):=fun W=>by have:=size_SN HSXV.out W;rw[HX.out.2.2.2.2.1] at this;exact this
 have HPT:Hid (∀ W,Below V.heap.size V W->Calls Tryz.prog 31 #[.agg #[.bool lfx,.int .i64 pgx,.slice kax knx kcx,.slice vax vnx vcx,.slice oax onx ocx,.slice yax ynx ycx],.int .i64 s] W fun e w'=>PartS W Q x s e w'):=fun W hW=>l3Part_any (HSXV.out.below hW) HX.out.2.2.1.slim s (by have:=HX.out.2.2.2.2.1;omega) (by have:=HX.out.2.2.2.2.1;omega)
 go_upto_region 4 with fail
 go_cut [6,7] (fun p q wx=>∃ (α β:Nat),p=.pointer (some ⟨α,0,none⟩)∧q=.pointer (some ⟨β,0,none⟩)∧Hid (PartBox V wx Q (x.fore s) (x.rest s) α β))
 case first =>
  go_wp2_with fail
  have hbc_:Below V.heap.size V V.drew:=(Below.refl _ _).drew
  refine wp_region_noPanic ?_
  refine wp_region_held_drew (S:=(fun w':World=>Below V.heap.size V w')) (by kernel_rfl) (hbc_) (fun hHeld=>?_)
  clear hHeld
  generalize V.drew=V1 at hbc_ ⊢
  have hHeld:=hbc_
  refine tY 0 (.slice (some ⟨b,0,none⟩) n c) .z (by kernel_rfl) (by rfl) ?_ ‹_› ?_
  ·intro wq hSw;go_simp
  refine tY 4 (.slice (some ⟨b,0,none⟩) n c) (.s (.s (.s (.s .z)))) (by kernel_rfl) (by rfl) ?_ ‹_› ?_
  ·intro wq hSw;go_simp
  refine tY 1 (.int .i64 (j:Int)) (.s .z) (by kernel_rfl) (by rfl) ?_ ‹_› ?_
  ·intro wq hSw;go_simp
  refine tY 5 (.int .i64 (j:Int)) (.f .z) (by kernel_rfl) (by rfl) ?_ ‹_› ?_
  ·intro wq hSw;go_simp
  try simp only[Act.put,q1,q2,q3]
  refine tY 2 (.pointer (some ⟨b,j*6,none⟩)) (.s (.s .z)) (by kernel_rfl) (by rfl) ?_ ‹_› ?_
  ·intro wq hSw;go_simp;intro hh;omega
  refine tY 6 (.pointer (some ⟨b,j*6,none⟩)) (.f (.s .z)) (by kernel_rfl) (by rfl) ?_ ‹_› ?_
  ·intro wq hSw;go_simp;intro hh;omega
  refine tY 3 (.agg #[.bool lfx,.int .i64 pgx,.slice kax knx kcx,.slice vax vnx vcx,.slice oax onx ocx,.slice yax ynx ycx]) (.s (.s (.s .z))) (by kernel_rfl) (by rfl) ?_ ‹_› ?_
  ·intro wq hSw;(try dsimp only at hSw);obtain⟨y0,y1,y2,y3,y4,y5⟩:=C6V.out.keep (hSw.block b lb);have lbq:b<wq.heap.size:=Nat.lt_of_lt_of_le lb hSw.size;go_simp
  refine tY 7 (.agg #[.bool lfx,.int .i64 pgx,.slice kax knx kcx,.slice vax vnx vcx,.slice oax onx ocx,.slice yax ynx ycx]) (.f (.s (.s .z))) (by kernel_rfl) (by rfl) ?_ ‹_› ?_
  ·intro wq hSw;(try dsimp only at hSw);obtain⟨y0,y1,y2,y3,y4,y5⟩:=C6V.out.keep (hSw.block b lb);have lbq:b<wq.heap.size:=Nat.lt_of_lt_of_le lb hSw.size;go_simp
  try simp only[Act.put,q1,q2,q3]
  refine wpAnyH_ready (rs:=[8,14,15]) (by kernel_rfl) (by simp) ?_
  refine rdA (.f (.s (.s (.s .z)))) (fun K hK=>?_) ?_
  rotate_left 1
  refine rdA (.t (.s (.s (.s (.s .z))))) (fun K hK=>?_) ?_
  rotate_left 1
  refine rdA (.t (.f .z)) (fun K hK=>?_) ?_
  rotate_left 1
  exact AllReadyH.nil
  ·go_simp
   refine (HSZ.out V1).mono ?_
   rintro e W1 ⟨rfl,hb8⟩
   go_wp2_with fail
   replace hbc_:=hbc_.trans (hb8.mono hbc_.size)
   clear hb8
   refine hK.out _ _ (hbc_) (fun hHeld=>?_)
   clear hK K
   refine tY 9 (.int .i64 (s:Int)) (.f (.s (.s (.s (.s .z))))) (by kernel_rfl) (by rfl) ?_ ‹_› ?_
   ·intro wq hSw;go_simp<;>first|(rw[IntKind.wrap_i64];omega)|omega|simp
   try simp only[Act.put,q1,q2,q3]
   refine wpAnyH_ready (rs:=[10,14,15]) (by kernel_rfl) (by simp) ?_
   refine rdA (.t .z) (fun K hK=>?_) ?_
   rotate_left 1
   refine rdA (.t (.s (.s (.s (.s .z))))) (fun K hK=>?_) ?_
   rotate_left 1
   refine rdA (.t (.f .z)) (fun K hK=>?_) ?_
   rotate_left 1
   exact AllReadyH.nil
   ·go_simp
    refine (HPT.out W1 hbc_).mono ?_
    rintro e w10 ⟨v1,v2,rfl,hA,hR,hb10⟩
    obtain⟨lf1,pg1,ka1,kn1,kc1,va1,vn1,vc1,oa1,on1,oc1,ya1,yn1,yc1,rfl⟩:=hA.letters
    obtain⟨lf2,pg2,ka2,kn2,kc2,va2,vn2,vc2,oa2,on2,oc2,ya2,yn2,yc2,rfl⟩:=hR.letters
    go_wp2_with fail
    obtain⟨Wc,hWc⟩:∃ Wc,W1.heap.size=Wc:=⟨_,rfl⟩
    have hVc:V.heap.size<=Wc:=by rw[<-hWc];exact hbc_.size
    rw[hWc] at hA hR
    replace hbc_:=hbc_.trans (hb10.mono hbc_.size)
    have h10:Below w10.heap.size w10 w10:=Below.refl _ _
    have HA:Hid (SN w10 (fun g=>Q g∨Wc<=g) (x.fore s) (.agg #[.bool lf1,.int .i64 pg1,.slice ka1 kn1 kc1,.slice va1 vn1 vc1,.slice oa1 on1 oc1,.slice ya1 yn1 yc1])):=hA
    have HR:Hid (SN w10 (fun g=>Q g∨Wc<=g) (x.rest s) (.agg #[.bool lf2,.int .i64 pg2,.slice ka2 kn2 kc2,.slice va2 vn2 vc2,.slice oa2 on2 oc2,.slice ya2 yn2 yc2])):=hR
    clear hb10 hA hR hWc
    refine hK.out _ _ (hbc_) (fun hHeld=>?_)
    clear hK K
    refine tY 11 (.tuple #[.agg #[.bool lf1,.int .i64 pg1,.slice ka1 kn1 kc1,.slice va1 vn1 vc1,.slice oa1 on1 oc1,.slice ya1 yn1 yc1],.agg #[.bool lf2,.int .i64 pg2,.slice ka2 kn2 kc2,.slice va2 vn2 vc2,.slice oa2 on2 oc2,.slice ya2 yn2 yc2]]) (.t (.s .z)) (by kernel_rfl) (by rfl) ?_ ‹_› ?_
    ·intro wq hSw;go_simp
    refine tY 12 (.agg #[.bool lf1,.int .i64 pg1,.slice ka1 kn1 kc1,.slice va1 vn1 vc1,.slice oa1 on1 oc1,.slice ya1 yn1 yc1]) (.t (.s (.s .z))) (by kernel_rfl) (by rfl) ?_ ‹_› ?_
    ·intro wq hSw;go_simp
    refine tY 13 (.agg #[.bool lf2,.int .i64 pg2,.slice ka2 kn2 kc2,.slice va2 vn2 vc2,.slice oa2 on2 oc2,.slice ya2 yn2 yc2]) (.t (.s (.s (.s .z)))) (by kernel_rfl) (by rfl) ?_ ‹_› ?_
    ·intro wq hSw;go_simp
    try simp only[Act.put,q1,q2,q3]
    refine wpAnyH_ready (rs:=[14,15]) (by kernel_rfl) (by simp) ?_
    refine rdA (.t (.s (.s (.s (.s .z))))) (fun K hK=>?_) ?_
    rotate_left 1
    refine rdA (.t (.f .z)) (fun K hK=>?_) ?_
    rotate_left 1
    exact AllReadyH.nil
    ·go_simp
     have kα:=heap_alloc_new w10 (.cells #[.bool false,.int .i64 0,.slice none 0 0,.slice none 0 0,.slice none 0 0,.slice none 0 0] 47)
     have hbz:Below w10.heap.size w10 (w10.alloc (.cells #[.bool false,.int .i64 0,.slice none 0 0,.slice none 0 0,.slice none 0 0,.slice none 0 0] 47)):=(Below.refl _ _).alloc (Nat.le_refl _) _
     have hVα:V.heap.size<=w10.heap.size:=hbc_.size
     obtain⟨α,he⟩:∃ α,α=w10.heap.size:=⟨_,rfl⟩
     rw[<-he] at kα hVα ⊢
     have nα:∀ g,(Q g∨Wc<=g)->g<w10.heap.size->g≠α:=fun g h1 h2=>by have:=h10.size;omega
     generalize w10.alloc (.cells #[.bool false,.int .i64 0,.slice none 0 0,.slice none 0 0,.slice none 0 0,.slice none 0 0] 47)=W3 at kα hbz ⊢
     skip
     replace h10:=h10.trans (hbz.mono h10.size)
     replace hbc_:=hbc_.trans (hbz.mono hbc_.size)
     clear he hbz
     refine hK.out _ _ (hbc_) (fun hHeld=>?_)
     clear hK K
     try simp only[Act.put,q1,q2,q3]
     refine wpAnyH_ready (rs:=[15]) (by kernel_rfl) (by simp) ?_
     refine rdA (.t (.f .z)) (fun K hK=>?_) AllReadyH.nil
     go_simp
     have kβ:=heap_alloc_new W3 (.cells #[.bool false,.int .i64 0,.slice none 0 0,.slice none 0 0,.slice none 0 0,.slice none 0 0] 47)
     have hbz:Below W3.heap.size W3 (W3.alloc (.cells #[.bool false,.int .i64 0,.slice none 0 0,.slice none 0 0,.slice none 0 0,.slice none 0 0] 47)):=(Below.refl _ _).alloc (Nat.le_refl _) _
     have hVβ:V.heap.size<=W3.heap.size:=hbc_.size
     obtain⟨β,he⟩:∃ β,β=W3.heap.size:=⟨_,rfl⟩
     rw[<-he] at kβ hVβ ⊢
     have nβ:∀ g,(Q g∨Wc<=g)->g<w10.heap.size->g≠β:=fun g h1 h2=>by have:=h10.size;omega
     have hαβ:α≠β:=by have:=(Array.getElem?_eq_some_iff.1 kα).1;omega
     generalize W3.alloc (.cells #[.bool false,.int .i64 0,.slice none 0 0,.slice none 0 0,.slice none 0 0,.slice none 0 0] 47)=W4 at kβ hbz ⊢
     skip
     replace kα:=(hbz.block α (Array.getElem?_eq_some_iff.1 kα).1).trans kα
     replace h10:=h10.trans (hbz.mono h10.size)
     replace hbc_:=hbc_.trans (hbz.mono hbc_.size)
     clear he hbz
     refine hK.out _ _ (hbc_) (fun hHeld=>?_)
     clear hK K
     try simp only[Act.put,q1,q2,q3]
     refine wpAnyH_ready (rs:=[16]) (by kernel_rfl) (by simp) ?_
     refine rdA (.t (.f (.s .z))) (fun K hK=>?_) AllReadyH.nil
     have hne:α≠β:=by first | exact hαβ | exact hαβ.symm
     obtain⟨g1,g2,g3⟩:=partBox HQV.out hVc HA.out HR.out h10 hbc_ kα kβ hVα hVβ hne nα nβ
     have HFIN:Hid (PartBox V _ Q (x.fore s) (x.rest s) α β):=g3
     have fα:=thawT kα
     obtain⟨y0,y1,y2,y3,y4,y5⟩:=box6g kα
     have lα9:=(Array.getElem?_eq_some_iff.1 kα).1
     go_simp
     clear y0 y1 y2 y3 y4 y5
     rw[put6T_eq]
     generalize hY:put6T W4 α (.bool lf1) (.int .i64 pg1) (.slice ka1 kn1 kc1) (.slice va1 vn1 vc1) (.slice oa1 on1 oc1) (.slice ya1 yn1 yc1)=Y at g1 g2 HFIN ⊢
     clear hY
     refine hK.out _ _ (g2) (fun hHeld=>?_)
     clear hK K
     try simp only[Act.put,q1,q2,q3]
     refine wpAnyH_ready (rs:=[17]) (by kernel_rfl) (by simp) ?_
     refine rdA (.t (.f (.s (.s .z)))) (fun K hK=>?_) AllReadyH.nil
     have fβ:=thawT g1
     obtain⟨y0,y1,y2,y3,y4,y5⟩:=box6g g1
     have lβ9:=(Array.getElem?_eq_some_iff.1 g1).1
     go_simp
     clear y0 y1 y2 y3 y4 y5
     rw[put6T_eq]
     generalize put6T Y β (.bool lf2) (.int .i64 pg2) (.slice ka2 kn2 kc2) (.slice va2 vn2 vc2) (.slice oa2 on2 oc2) (.slice ya2 yn2 yc2)=Z at HFIN ⊢
     refine hK.out _ _ (by obtain⟨_,_,_,_,_,_,_,_,_,_,_,_,_,_,_,_,_,_,_,_,_,_,_,_,_,_,_,_,_,_,_,_,_,_,h9⟩:=HFIN.out;exact h9) (fun hHeld=>?_)
     clear hK K
     try simp only[Act.put,q1,q2,q3]
     refine wpAnyH_done (by kernel_rfl) ?_ _
     refine NoPanic.normal ?_
     clear hHeld g1 g2 kα kβ hbc_ h10 nα nβ
     go_wp2_with fail
     go_meet
     exact⟨α,β,rfl,rfl,HFIN⟩
    ·go_simp
     have kβ:=heap_alloc_new w10 (.cells #[.bool false,.int .i64 0,.slice none 0 0,.slice none 0 0,.slice none 0 0,.slice none 0 0] 47)
     have hbz:Below w10.heap.size w10 (w10.alloc (.cells #[.bool false,.int .i64 0,.slice none 0 0,.slice none 0 0,.slice none 0 0,.slice none 0 0] 47)):=(Below.refl _ _).alloc (Nat.le_refl _) _
     have hVβ:V.heap.size<=w10.heap.size:=hbc_.size
     obtain⟨β,he⟩:∃ β,β=w10.heap.size:=⟨_,rfl⟩
     rw[<-he] at kβ hVβ ⊢
     have nβ:∀ g,(Q g∨Wc<=g)->g<w10.heap.size->g≠β:=fun g h1 h2=>by have:=h10.size;omega
     generalize w10.alloc (.cells #[.bool false,.int .i64 0,.slice none 0 0,.slice none 0 0,.slice none 0 0,.slice none 0 0] 47)=W5 at kβ hbz ⊢
     skip
     replace h10:=h10.trans (hbz.mono h10.size)
     replace hbc_:=hbc_.trans (hbz.mono hbc_.size)
     clear he hbz
     refine hK.out _ _ (hbc_) (fun hHeld=>?_)
     clear hK K
     try simp only[Act.put,q1,q2,q3]
     refine wpAnyH_ready (rs:=[14]) (by kernel_rfl) (by simp) ?_
     refine rdA (.t (.s (.s (.s (.s .z))))) (fun K hK=>?_) AllReadyH.nil
     go_simp
     have kα:=heap_alloc_new W5 (.cells #[.bool false,.int .i64 0,.slice none 0 0,.slice none 0 0,.slice none 0 0,.slice none 0 0] 47)
     have hbz:Below W5.heap.size W5 (W5.alloc (.cells #[.bool false,.int .i64 0,.slice none 0 0,.slice none 0 0,.slice none 0 0,.slice none 0 0] 47)):=(Below.refl _ _).alloc (Nat.le_refl _) _
     have hVα:V.heap.size<=W5.heap.size:=hbc_.size
     obtain⟨α,he⟩:∃ α,α=W5.heap.size:=⟨_,rfl⟩
     rw[<-he] at kα hVα ⊢
     have nα:∀ g,(Q g∨Wc<=g)->g<w10.heap.size->g≠α:=fun g h1 h2=>by have:=h10.size;omega
     have hαβ:β≠α:=by have:=(Array.getElem?_eq_some_iff.1 kβ).1;omega
     generalize W5.alloc (.cells #[.bool false,.int .i64 0,.slice none 0 0,.slice none 0 0,.slice none 0 0,.slice none 0 0] 47)=W6 at kα hbz ⊢
     skip
     replace kβ:=(hbz.block β (Array.getElem?_eq_some_iff.1 kβ).1).trans kβ
     replace h10:=h10.trans (hbz.mono h10.size)
     replace hbc_:=hbc_.trans (hbz.mono hbc_.size)
     clear he hbz
     refine hK.out _ _ (hbc_) (fun hHeld=>?_)
     clear hK K
     try simp only[Act.put,q1,q2,q3]
     refine wpAnyH_ready (rs:=[16]) (by kernel_rfl) (by simp) ?_
     refine rdA (.t (.f (.s .z))) (fun K hK=>?_) AllReadyH.nil
     have hne:α≠β:=by first | exact hαβ | exact hαβ.symm
     obtain⟨g1,g2,g3⟩:=partBox HQV.out hVc HA.out HR.out h10 hbc_ kα kβ hVα hVβ hne nα nβ
     have HFIN:Hid (PartBox V _ Q (x.fore s) (x.rest s) α β):=g3
     have fα:=thawT kα
     obtain⟨y0,y1,y2,y3,y4,y5⟩:=box6g kα
     have lα9:=(Array.getElem?_eq_some_iff.1 kα).1
     go_simp
     clear y0 y1 y2 y3 y4 y5
     rw[put6T_eq]
     generalize hY:put6T W6 α (.bool lf1) (.int .i64 pg1) (.slice ka1 kn1 kc1) (.slice va1 vn1 vc1) (.slice oa1 on1 oc1) (.slice ya1 yn1 yc1)=Y at g1 g2 HFIN ⊢
     clear hY
     refine hK.out _ _ (g2) (fun hHeld=>?_)
     clear hK K
     try simp only[Act.put,q1,q2,q3]
     refine wpAnyH_ready (rs:=[17]) (by kernel_rfl) (by simp) ?_
     refine rdA (.t (.f (.s (.s .z)))) (fun K hK=>?_) AllReadyH.nil
     have fβ:=thawT g1
     obtain⟨y0,y1,y2,y3,y4,y5⟩:=box6g g1
     have lβ9:=(Array.getElem?_eq_some_iff.1 g1).1
     go_simp
     clear y0 y1 y2 y3 y4 y5
     rw[put6T_eq]
     generalize put6T Y β (.bool lf2) (.int .i64 pg2) (.slice ka2 kn2 kc2) (.slice va2 vn2 vc2) (.slice oa2 on2 oc2) (.slice ya2 yn2 yc2)=Z at HFIN ⊢
     refine hK.out _ _ (by obtain⟨_,_,_,_,_,_,_,_,_,_,_,_,_,_,_,_,_,_,_,_,_,_,_,_,_,_,_,_,_,_,_,_,_,_,h9⟩:=HFIN.out;exact h9) (fun hHeld=>?_)
     clear hK K
     try simp only[Act.put,q1,q2,q3]
     refine wpAnyH_done (by kernel_rfl) ?_ _
     refine NoPanic.normal ?_
     clear hHeld g1 g2 kα kβ hbc_ h10 nα nβ
     go_wp2_with fail
     go_meet
     exact⟨α,β,rfl,rfl,HFIN⟩
   ·go_simp
    have kα:=heap_alloc_new W1 (.cells #[.bool false,.int .i64 0,.slice none 0 0,.slice none 0 0,.slice none 0 0,.slice none 0 0] 47)
    have hbz:Below W1.heap.size W1 (W1.alloc (.cells #[.bool false,.int .i64 0,.slice none 0 0,.slice none 0 0,.slice none 0 0,.slice none 0 0] 47)):=(Below.refl _ _).alloc (Nat.le_refl _) _
    have hVα:V.heap.size<=W1.heap.size:=hbc_.size
    obtain⟨α,he⟩:∃ α,α=W1.heap.size:=⟨_,rfl⟩
    rw[<-he] at kα hVα ⊢
    generalize W1.alloc (.cells #[.bool false,.int .i64 0,.slice none 0 0,.slice none 0 0,.slice none 0 0,.slice none 0 0] 47)=W7 at kα hbz ⊢
    skip
    replace hbc_:=hbc_.trans (hbz.mono hbc_.size)
    clear he hbz
    refine hK.out _ _ (hbc_) (fun hHeld=>?_)
    clear hK K
    try simp only[Act.put,q1,q2,q3]
    refine wpAnyH_ready (rs:=[10,15]) (by kernel_rfl) (by simp) ?_
    refine rdA (.t .z) (fun K hK=>?_) ?_
    rotate_left 1
    refine rdA (.t (.f .z)) (fun K hK=>?_) ?_
    rotate_left 1
    exact AllReadyH.nil
    ·go_simp
     refine (HPT.out W7 hbc_).mono ?_
     rintro e w10 ⟨v1,v2,rfl,hA,hR,hb10⟩
     obtain⟨lf1,pg1,ka1,kn1,kc1,va1,vn1,vc1,oa1,on1,oc1,ya1,yn1,yc1,rfl⟩:=hA.letters
     obtain⟨lf2,pg2,ka2,kn2,kc2,va2,vn2,vc2,oa2,on2,oc2,ya2,yn2,yc2,rfl⟩:=hR.letters
     go_wp2_with fail
     obtain⟨Wc,hWc⟩:∃ Wc,W7.heap.size=Wc:=⟨_,rfl⟩
     have hVc:V.heap.size<=Wc:=by rw[<-hWc];exact hbc_.size
     rw[hWc] at hA hR
     have lα:=(Array.getElem?_eq_some_iff.1 kα).1
     have nα:∀ g,(Q g∨Wc<=g)->g<w10.heap.size->g≠α:=fun g h1 h2=>by rcases h1 with h1 | h1;(have:=HQV.out g h1;omega);omega
     replace kα:=(hb10.block α lα).trans kα
     replace hbc_:=hbc_.trans (hb10.mono hbc_.size)
     have h10:Below w10.heap.size w10 w10:=Below.refl _ _
     have HA:Hid (SN w10 (fun g=>Q g∨Wc<=g) (x.fore s) (.agg #[.bool lf1,.int .i64 pg1,.slice ka1 kn1 kc1,.slice va1 vn1 vc1,.slice oa1 on1 oc1,.slice ya1 yn1 yc1])):=hA
     have HR:Hid (SN w10 (fun g=>Q g∨Wc<=g) (x.rest s) (.agg #[.bool lf2,.int .i64 pg2,.slice ka2 kn2 kc2,.slice va2 vn2 vc2,.slice oa2 on2 oc2,.slice ya2 yn2 yc2])):=hR
     clear hb10 hA hR hWc
     refine hK.out _ _ (hbc_) (fun hHeld=>?_)
     clear hK K
     refine tY 11 (.tuple #[.agg #[.bool lf1,.int .i64 pg1,.slice ka1 kn1 kc1,.slice va1 vn1 vc1,.slice oa1 on1 oc1,.slice ya1 yn1 yc1],.agg #[.bool lf2,.int .i64 pg2,.slice ka2 kn2 kc2,.slice va2 vn2 vc2,.slice oa2 on2 oc2,.slice ya2 yn2 yc2]]) (.t (.s .z)) (by kernel_rfl) (by rfl) ?_ ‹_› ?_
     ·intro wq hSw;go_simp
     refine tY 12 (.agg #[.bool lf1,.int .i64 pg1,.slice ka1 kn1 kc1,.slice va1 vn1 vc1,.slice oa1 on1 oc1,.slice ya1 yn1 yc1]) (.t (.s (.s .z))) (by kernel_rfl) (by rfl) ?_ ‹_› ?_
     ·intro wq hSw;go_simp
     refine tY 13 (.agg #[.bool lf2,.int .i64 pg2,.slice ka2 kn2 kc2,.slice va2 vn2 vc2,.slice oa2 on2 oc2,.slice ya2 yn2 yc2]) (.t (.s (.s (.s .z)))) (by kernel_rfl) (by rfl) ?_ ‹_› ?_
     ·intro wq hSw;go_simp
     try simp only[Act.put,q1,q2,q3]
     refine wpAnyH_ready (rs:=[15]) (by kernel_rfl) (by simp) ?_
     refine rdA (.t (.f .z)) (fun K hK=>?_) AllReadyH.nil
     go_simp
     have kβ:=heap_alloc_new w10 (.cells #[.bool false,.int .i64 0,.slice none 0 0,.slice none 0 0,.slice none 0 0,.slice none 0 0] 47)
     have hbz:Below w10.heap.size w10 (w10.alloc (.cells #[.bool false,.int .i64 0,.slice none 0 0,.slice none 0 0,.slice none 0 0,.slice none 0 0] 47)):=(Below.refl _ _).alloc (Nat.le_refl _) _
     have hVβ:V.heap.size<=w10.heap.size:=hbc_.size
     obtain⟨β,he⟩:∃ β,β=w10.heap.size:=⟨_,rfl⟩
     rw[<-he] at kβ hVβ ⊢
     have nβ:∀ g,(Q g∨Wc<=g)->g<w10.heap.size->g≠β:=fun g h1 h2=>by have:=h10.size;omega
     have hαβ:α≠β:=by have:=(Array.getElem?_eq_some_iff.1 kα).1;omega
     generalize w10.alloc (.cells #[.bool false,.int .i64 0,.slice none 0 0,.slice none 0 0,.slice none 0 0,.slice none 0 0] 47)=W9 at kβ hbz ⊢
     skip
     replace kα:=(hbz.block α (Array.getElem?_eq_some_iff.1 kα).1).trans kα
     replace h10:=h10.trans (hbz.mono h10.size)
     replace hbc_:=hbc_.trans (hbz.mono hbc_.size)
     clear he hbz
     refine hK.out _ _ (hbc_) (fun hHeld=>?_)
     clear hK K
     try simp only[Act.put,q1,q2,q3]
     refine wpAnyH_ready (rs:=[16]) (by kernel_rfl) (by simp) ?_
     refine rdA (.t (.f (.s .z))) (fun K hK=>?_) AllReadyH.nil
     have hne:α≠β:=by first | exact hαβ | exact hαβ.symm
     obtain⟨g1,g2,g3⟩:=partBox HQV.out hVc HA.out HR.out h10 hbc_ kα kβ hVα hVβ hne nα nβ
     have HFIN:Hid (PartBox V _ Q (x.fore s) (x.rest s) α β):=g3
     have fα:=thawT kα
     obtain⟨y0,y1,y2,y3,y4,y5⟩:=box6g kα
     have lα9:=(Array.getElem?_eq_some_iff.1 kα).1
     go_simp
     clear y0 y1 y2 y3 y4 y5
     rw[put6T_eq]
     generalize hY:put6T W9 α (.bool lf1) (.int .i64 pg1) (.slice ka1 kn1 kc1) (.slice va1 vn1 vc1) (.slice oa1 on1 oc1) (.slice ya1 yn1 yc1)=Y at g1 g2 HFIN ⊢
     clear hY
     refine hK.out _ _ (g2) (fun hHeld=>?_)
     clear hK K
     try simp only[Act.put,q1,q2,q3]
     refine wpAnyH_ready (rs:=[17]) (by kernel_rfl) (by simp) ?_
     refine rdA (.t (.f (.s (.s .z)))) (fun K hK=>?_) AllReadyH.nil
     have fβ:=thawT g1
     obtain⟨y0,y1,y2,y3,y4,y5⟩:=box6g g1
     have lβ9:=(Array.getElem?_eq_some_iff.1 g1).1
     go_simp
     clear y0 y1 y2 y3 y4 y5
     rw[put6T_eq]
     generalize put6T Y β (.bool lf2) (.int .i64 pg2) (.slice ka2 kn2 kc2) (.slice va2 vn2 vc2) (.slice oa2 on2 oc2) (.slice ya2 yn2 yc2)=Z at HFIN ⊢
     refine hK.out _ _ (by obtain⟨_,_,_,_,_,_,_,_,_,_,_,_,_,_,_,_,_,_,_,_,_,_,_,_,_,_,_,_,_,_,_,_,_,_,h9⟩:=HFIN.out;exact h9) (fun hHeld=>?_)
     clear hK K
     try simp only[Act.put,q1,q2,q3]
     refine wpAnyH_done (by kernel_rfl) ?_ _
     refine NoPanic.normal ?_
     clear hHeld g1 g2 kα kβ hbc_ h10 nα nβ
     go_wp2_with fail
     go_meet
     exact⟨α,β,rfl,rfl,HFIN⟩
    ·go_simp
     have kβ:=heap_alloc_new W7 (.cells #[.bool false,.int .i64 0,.slice none 0 0,.slice none 0 0,.slice none 0 0,.slice none 0 0] 47)
     have hbz:Below W7.heap.size W7 (W7.alloc (.cells #[.bool false,.int .i64 0,.slice none 0 0,.slice none 0 0,.slice none 0 0,.slice none 0 0] 47)):=(Below.refl _ _).alloc (Nat.le_refl _) _
     have hVβ:V.heap.size<=W7.heap.size:=hbc_.size
     obtain⟨β,he⟩:∃ β,β=W7.heap.size:=⟨_,rfl⟩
     rw[<-he] at kβ hVβ ⊢
     have hαβ:α≠β:=by have:=(Array.getElem?_eq_some_iff.1 kα).1;omega
     generalize W7.alloc (.cells #[.bool false,.int .i64 0,.slice none 0 0,.slice none 0 0,.slice none 0 0,.slice none 0 0] 47)=W10 at kβ hbz ⊢
     skip
     replace kα:=(hbz.block α (Array.getElem?_eq_some_iff.1 kα).1).trans kα
     replace hbc_:=hbc_.trans (hbz.mono hbc_.size)
     clear he hbz
     refine hK.out _ _ (hbc_) (fun hHeld=>?_)
     clear hK K
     try simp only[Act.put,q1,q2,q3]
     refine wpAnyH_ready (rs:=[10]) (by kernel_rfl) (by simp) ?_
     refine rdA (.t .z) (fun K hK=>?_) AllReadyH.nil
     go_simp
     refine (HPT.out W10 hbc_).mono ?_
     rintro e w10 ⟨v1,v2,rfl,hA,hR,hb10⟩
     obtain⟨lf1,pg1,ka1,kn1,kc1,va1,vn1,vc1,oa1,on1,oc1,ya1,yn1,yc1,rfl⟩:=hA.letters
     obtain⟨lf2,pg2,ka2,kn2,kc2,va2,vn2,vc2,oa2,on2,oc2,ya2,yn2,yc2,rfl⟩:=hR.letters
     go_wp2_with fail
     obtain⟨Wc,hWc⟩:∃ Wc,W10.heap.size=Wc:=⟨_,rfl⟩
     have hVc:V.heap.size<=Wc:=by rw[<-hWc];exact hbc_.size
     rw[hWc] at hA hR
     have lα:=(Array.getElem?_eq_some_iff.1 kα).1
     have nα:∀ g,(Q g∨Wc<=g)->g<w10.heap.size->g≠α:=fun g h1 h2=>by rcases h1 with h1 | h1;(have:=HQV.out g h1;omega);omega
     replace kα:=(hb10.block α lα).trans kα
     have lβ:=(Array.getElem?_eq_some_iff.1 kβ).1
     have nβ:∀ g,(Q g∨Wc<=g)->g<w10.heap.size->g≠β:=fun g h1 h2=>by rcases h1 with h1 | h1;(have:=HQV.out g h1;omega);omega
     replace kβ:=(hb10.block β lβ).trans kβ
     replace hbc_:=hbc_.trans (hb10.mono hbc_.size)
     have h10:Below w10.heap.size w10 w10:=Below.refl _ _
     have HA:Hid (SN w10 (fun g=>Q g∨Wc<=g) (x.fore s) (.agg #[.bool lf1,.int .i64 pg1,.slice ka1 kn1 kc1,.slice va1 vn1 vc1,.slice oa1 on1 oc1,.slice ya1 yn1 yc1])):=hA
     have HR:Hid (SN w10 (fun g=>Q g∨Wc<=g) (x.rest s) (.agg #[.bool lf2,.int .i64 pg2,.slice ka2 kn2 kc2,.slice va2 vn2 vc2,.slice oa2 on2 oc2,.slice ya2 yn2 yc2])):=hR
     clear hb10 hA hR hWc
     refine hK.out _ _ (hbc_) (fun hHeld=>?_)
     clear hK K
     refine tY 11 (.tuple #[.agg #[.bool lf1,.int .i64 pg1,.slice ka1 kn1 kc1,.slice va1 vn1 vc1,.slice oa1 on1 oc1,.slice ya1 yn1 yc1],.agg #[.bool lf2,.int .i64 pg2,.slice ka2 kn2 kc2,.slice va2 vn2 vc2,.slice oa2 on2 oc2,.slice ya2 yn2 yc2]]) (.t (.s .z)) (by kernel_rfl) (by rfl) ?_ ‹_› ?_
     ·intro wq hSw;go_simp
     refine tY 12 (.agg #[.bool lf1,.int .i64 pg1,.slice ka1 kn1 kc1,.slice va1 vn1 vc1,.slice oa1 on1 oc1,.slice ya1 yn1 yc1]) (.t (.s (.s .z))) (by kernel_rfl) (by rfl) ?_ ‹_› ?_
     ·intro wq hSw;go_simp
     refine tY 13 (.agg #[.bool lf2,.int .i64 pg2,.slice ka2 kn2 kc2,.slice va2 vn2 vc2,.slice oa2 on2 oc2,.slice ya2 yn2 yc2]) (.t (.s (.s (.s .z)))) (by kernel_rfl) (by rfl) ?_ ‹_› ?_
     ·intro wq hSw;go_simp
     try simp only[Act.put,q1,q2,q3]
     refine wpAnyH_ready (rs:=[16]) (by kernel_rfl) (by simp) ?_
     refine rdA (.t (.f (.s .z))) (fun K hK=>?_) AllReadyH.nil
     have hne:α≠β:=by first | exact hαβ | exact hαβ.symm
     obtain⟨g1,g2,g3⟩:=partBox HQV.out hVc HA.out HR.out h10 hbc_ kα kβ hVα hVβ hne nα nβ
     have HFIN:Hid (PartBox V _ Q (x.fore s) (x.rest s) α β):=g3
     have fα:=thawT kα
     obtain⟨y0,y1,y2,y3,y4,y5⟩:=box6g kα
     have lα9:=(Array.getElem?_eq_some_iff.1 kα).1
     go_simp
     clear y0 y1 y2 y3 y4 y5
     rw[put6T_eq]
     generalize hY:put6T w10 α (.bool lf1) (.int .i64 pg1) (.slice ka1 kn1 kc1) (.slice va1 vn1 vc1) (.slice oa1 on1 oc1) (.slice ya1 yn1 yc1)=Y at g1 g2 HFIN ⊢
     clear hY
     refine hK.out _ _ (g2) (fun hHeld=>?_)
     clear hK K
     try simp only[Act.put,q1,q2,q3]
     refine wpAnyH_ready (rs:=[17]) (by kernel_rfl) (by simp) ?_
     refine rdA (.t (.f (.s (.s .z)))) (fun K hK=>?_) AllReadyH.nil
     have fβ:=thawT g1
     obtain⟨y0,y1,y2,y3,y4,y5⟩:=box6g g1
     have lβ9:=(Array.getElem?_eq_some_iff.1 g1).1
     go_simp
     clear y0 y1 y2 y3 y4 y5
     rw[put6T_eq]
     generalize put6T Y β (.bool lf2) (.int .i64 pg2) (.slice ka2 kn2 kc2) (.slice va2 vn2 vc2) (.slice oa2 on2 oc2) (.slice ya2 yn2 yc2)=Z at HFIN ⊢
     refine hK.out _ _ (by obtain⟨_,_,_,_,_,_,_,_,_,_,_,_,_,_,_,_,_,_,_,_,_,_,_,_,_,_,_,_,_,_,_,_,_,_,h9⟩:=HFIN.out;exact h9) (fun hHeld=>?_)
     clear hK K
     try simp only[Act.put,q1,q2,q3]
     refine wpAnyH_done (by kernel_rfl) ?_ _
     refine NoPanic.normal ?_
     clear hHeld g1 g2 kα kβ hbc_ h10 nα nβ
     go_wp2_with fail
     go_meet
     exact⟨α,β,rfl,rfl,HFIN⟩
   ·go_simp
    have kβ:=heap_alloc_new W1 (.cells #[.bool false,.int .i64 0,.slice none 0 0,.slice none 0 0,.slice none 0 0,.slice none 0 0] 47)
    have hbz:Below W1.heap.size W1 (W1.alloc (.cells #[.bool false,.int .i64 0,.slice none 0 0,.slice none 0 0,.slice none 0 0,.slice none 0 0] 47)):=(Below.refl _ _).alloc (Nat.le_refl _) _
    have hVβ:V.heap.size<=W1.heap.size:=hbc_.size
    obtain⟨β,he⟩:∃ β,β=W1.heap.size:=⟨_,rfl⟩
    rw[<-he] at kβ hVβ ⊢
    generalize W1.alloc (.cells #[.bool false,.int .i64 0,.slice none 0 0,.slice none 0 0,.slice none 0 0,.slice none 0 0] 47)=W12 at kβ hbz ⊢
    skip
    replace hbc_:=hbc_.trans (hbz.mono hbc_.size)
    clear he hbz
    refine hK.out _ _ (hbc_) (fun hHeld=>?_)
    clear hK K
    try simp only[Act.put,q1,q2,q3]
    refine wpAnyH_ready (rs:=[10,14]) (by kernel_rfl) (by simp) ?_
    refine rdA (.t .z) (fun K hK=>?_) ?_
    rotate_left 1
    refine rdA (.t (.s (.s (.s (.s .z))))) (fun K hK=>?_) ?_
    rotate_left 1
    exact AllReadyH.nil
    ·go_simp
     refine (HPT.out W12 hbc_).mono ?_
     rintro e w10 ⟨v1,v2,rfl,hA,hR,hb10⟩
     obtain⟨lf1,pg1,ka1,kn1,kc1,va1,vn1,vc1,oa1,on1,oc1,ya1,yn1,yc1,rfl⟩:=hA.letters
     obtain⟨lf2,pg2,ka2,kn2,kc2,va2,vn2,vc2,oa2,on2,oc2,ya2,yn2,yc2,rfl⟩:=hR.letters
     go_wp2_with fail
     obtain⟨Wc,hWc⟩:∃ Wc,W12.heap.size=Wc:=⟨_,rfl⟩
     have hVc:V.heap.size<=Wc:=by rw[<-hWc];exact hbc_.size
     rw[hWc] at hA hR
     have lβ:=(Array.getElem?_eq_some_iff.1 kβ).1
     have nβ:∀ g,(Q g∨Wc<=g)->g<w10.heap.size->g≠β:=fun g h1 h2=>by rcases h1 with h1 | h1;(have:=HQV.out g h1;omega);omega
     replace kβ:=(hb10.block β lβ).trans kβ
     replace hbc_:=hbc_.trans (hb10.mono hbc_.size)
     have h10:Below w10.heap.size w10 w10:=Below.refl _ _
     have HA:Hid (SN w10 (fun g=>Q g∨Wc<=g) (x.fore s) (.agg #[.bool lf1,.int .i64 pg1,.slice ka1 kn1 kc1,.slice va1 vn1 vc1,.slice oa1 on1 oc1,.slice ya1 yn1 yc1])):=hA
     have HR:Hid (SN w10 (fun g=>Q g∨Wc<=g) (x.rest s) (.agg #[.bool lf2,.int .i64 pg2,.slice ka2 kn2 kc2,.slice va2 vn2 vc2,.slice oa2 on2 oc2,.slice ya2 yn2 yc2])):=hR
     clear hb10 hA hR hWc
     refine hK.out _ _ (hbc_) (fun hHeld=>?_)
     clear hK K
     refine tY 11 (.tuple #[.agg #[.bool lf1,.int .i64 pg1,.slice ka1 kn1 kc1,.slice va1 vn1 vc1,.slice oa1 on1 oc1,.slice ya1 yn1 yc1],.agg #[.bool lf2,.int .i64 pg2,.slice ka2 kn2 kc2,.slice va2 vn2 vc2,.slice oa2 on2 oc2,.slice ya2 yn2 yc2]]) (.t (.s .z)) (by kernel_rfl) (by rfl) ?_ ‹_› ?_
     ·intro wq hSw;go_simp
     refine tY 12 (.agg #[.bool lf1,.int .i64 pg1,.slice ka1 kn1 kc1,.slice va1 vn1 vc1,.slice oa1 on1 oc1,.slice ya1 yn1 yc1]) (.t (.s (.s .z))) (by kernel_rfl) (by rfl) ?_ ‹_› ?_
     ·intro wq hSw;go_simp
     refine tY 13 (.agg #[.bool lf2,.int .i64 pg2,.slice ka2 kn2 kc2,.slice va2 vn2 vc2,.slice oa2 on2 oc2,.slice ya2 yn2 yc2]) (.t (.s (.s (.s .z)))) (by kernel_rfl) (by rfl) ?_ ‹_› ?_
     ·intro wq hSw;go_simp
     try simp only[Act.put,q1,q2,q3]
     refine wpAnyH_ready (rs:=[14]) (by kernel_rfl) (by simp) ?_
     refine rdA (.t (.s (.s (.s (.s .z))))) (fun K hK=>?_) AllReadyH.nil
     go_simp
     have kα:=heap_alloc_new w10 (.cells #[.bool false,.int .i64 0,.slice none 0 0,.slice none 0 0,.slice none 0 0,.slice none 0 0] 47)
     have hbz:Below w10.heap.size w10 (w10.alloc (.cells #[.bool false,.int .i64 0,.slice none 0 0,.slice none 0 0,.slice none 0 0,.slice none 0 0] 47)):=(Below.refl _ _).alloc (Nat.le_refl _) _
     have hVα:V.heap.size<=w10.heap.size:=hbc_.size
     obtain⟨α,he⟩:∃ α,α=w10.heap.size:=⟨_,rfl⟩
     rw[<-he] at kα hVα ⊢
     have nα:∀ g,(Q g∨Wc<=g)->g<w10.heap.size->g≠α:=fun g h1 h2=>by have:=h10.size;omega
     have hαβ:β≠α:=by have:=(Array.getElem?_eq_some_iff.1 kβ).1;omega
     generalize w10.alloc (.cells #[.bool false,.int .i64 0,.slice none 0 0,.slice none 0 0,.slice none 0 0,.slice none 0 0] 47)=W14 at kα hbz ⊢
     skip
     replace kβ:=(hbz.block β (Array.getElem?_eq_some_iff.1 kβ).1).trans kβ
     replace h10:=h10.trans (hbz.mono h10.size)
     replace hbc_:=hbc_.trans (hbz.mono hbc_.size)
     clear he hbz
     refine hK.out _ _ (hbc_) (fun hHeld=>?_)
     clear hK K
     try simp only[Act.put,q1,q2,q3]
     refine wpAnyH_ready (rs:=[16]) (by kernel_rfl) (by simp) ?_
     refine rdA (.t (.f (.s .z))) (fun K hK=>?_) AllReadyH.nil
     have hne:α≠β:=by first | exact hαβ | exact hαβ.symm
     obtain⟨g1,g2,g3⟩:=partBox HQV.out hVc HA.out HR.out h10 hbc_ kα kβ hVα hVβ hne nα nβ
     have HFIN:Hid (PartBox V _ Q (x.fore s) (x.rest s) α β):=g3
     have fα:=thawT kα
     obtain⟨y0,y1,y2,y3,y4,y5⟩:=box6g kα
     have lα9:=(Array.getElem?_eq_some_iff.1 kα).1
     go_simp
     clear y0 y1 y2 y3 y4 y5
     rw[put6T_eq]
     generalize hY:put6T W14 α (.bool lf1) (.int .i64 pg1) (.slice ka1 kn1 kc1) (.slice va1 vn1 vc1) (.slice oa1 on1 oc1) (.slice ya1 yn1 yc1)=Y at g1 g2 HFIN ⊢
     clear hY
     refine hK.out _ _ (g2) (fun hHeld=>?_)
     clear hK K
     try simp only[Act.put,q1,q2,q3]
     refine wpAnyH_ready (rs:=[17]) (by kernel_rfl) (by simp) ?_
     refine rdA (.t (.f (.s (.s .z)))) (fun K hK=>?_) AllReadyH.nil
     have fβ:=thawT g1
     obtain⟨y0,y1,y2,y3,y4,y5⟩:=box6g g1
     have lβ9:=(Array.getElem?_eq_some_iff.1 g1).1
     go_simp
     clear y0 y1 y2 y3 y4 y5
     rw[put6T_eq]
     generalize put6T Y β (.bool lf2) (.int .i64 pg2) (.slice ka2 kn2 kc2) (.slice va2 vn2 vc2) (.slice oa2 on2 oc2) (.slice ya2 yn2 yc2)=Z at HFIN ⊢
     refine hK.out _ _ (by obtain⟨_,_,_,_,_,_,_,_,_,_,_,_,_,_,_,_,_,_,_,_,_,_,_,_,_,_,_,_,_,_,_,_,_,_,h9⟩:=HFIN.out;exact h9) (fun hHeld=>?_)
     clear hK K
     try simp only[Act.put,q1,q2,q3]
     refine wpAnyH_done (by kernel_rfl) ?_ _
     refine NoPanic.normal ?_
     clear hHeld g1 g2 kα kβ hbc_ h10 nα nβ
     go_wp2_with fail
     go_meet
     exact⟨α,β,rfl,rfl,HFIN⟩
    ·go_simp
     have kα:=heap_alloc_new W12 (.cells #[.bool false,.int .i64 0,.slice none 0 0,.slice none 0 0,.slice none 0 0,.slice none 0 0] 47)
     have hbz:Below W12.heap.size W12 (W12.alloc (.cells #[.bool false,.int .i64 0,.slice none 0 0,.slice none 0 0,.slice none 0 0,.slice none 0 0] 47)):=(Below.refl _ _).alloc (Nat.le_refl _) _
     have hVα:V.heap.size<=W12.heap.size:=hbc_.size
     obtain⟨α,he⟩:∃ α,α=W12.heap.size:=⟨_,rfl⟩
     rw[<-he] at kα hVα ⊢
     have hαβ:β≠α:=by have:=(Array.getElem?_eq_some_iff.1 kβ).1;omega
     generalize W12.alloc (.cells #[.bool false,.int .i64 0,.slice none 0 0,.slice none 0 0,.slice none 0 0,.slice none 0 0] 47)=W15 at kα hbz ⊢
     skip
     replace kβ:=(hbz.block β (Array.getElem?_eq_some_iff.1 kβ).1).trans kβ
     replace hbc_:=hbc_.trans (hbz.mono hbc_.size)
     clear he hbz
     refine hK.out _ _ (hbc_) (fun hHeld=>?_)
     clear hK K
     try simp only[Act.put,q1,q2,q3]
     refine wpAnyH_ready (rs:=[10]) (by kernel_rfl) (by simp) ?_
     refine rdA (.t .z) (fun K hK=>?_) AllReadyH.nil
     go_simp
     refine (HPT.out W15 hbc_).mono ?_
     rintro e w10 ⟨v1,v2,rfl,hA,hR,hb10⟩
     obtain⟨lf1,pg1,ka1,kn1,kc1,va1,vn1,vc1,oa1,on1,oc1,ya1,yn1,yc1,rfl⟩:=hA.letters
     obtain⟨lf2,pg2,ka2,kn2,kc2,va2,vn2,vc2,oa2,on2,oc2,ya2,yn2,yc2,rfl⟩:=hR.letters
     go_wp2_with fail
     obtain⟨Wc,hWc⟩:∃ Wc,W15.heap.size=Wc:=⟨_,rfl⟩
     have hVc:V.heap.size<=Wc:=by rw[<-hWc];exact hbc_.size
     rw[hWc] at hA hR
     have lα:=(Array.getElem?_eq_some_iff.1 kα).1
     have nα:∀ g,(Q g∨Wc<=g)->g<w10.heap.size->g≠α:=fun g h1 h2=>by rcases h1 with h1 | h1;(have:=HQV.out g h1;omega);omega
     replace kα:=(hb10.block α lα).trans kα
     have lβ:=(Array.getElem?_eq_some_iff.1 kβ).1
     have nβ:∀ g,(Q g∨Wc<=g)->g<w10.heap.size->g≠β:=fun g h1 h2=>by rcases h1 with h1 | h1;(have:=HQV.out g h1;omega);omega
     replace kβ:=(hb10.block β lβ).trans kβ
     replace hbc_:=hbc_.trans (hb10.mono hbc_.size)
     have h10:Below w10.heap.size w10 w10:=Below.refl _ _
     have HA:Hid (SN w10 (fun g=>Q g∨Wc<=g) (x.fore s) (.agg #[.bool lf1,.int .i64 pg1,.slice ka1 kn1 kc1,.slice va1 vn1 vc1,.slice oa1 on1 oc1,.slice ya1 yn1 yc1])):=hA
     have HR:Hid (SN w10 (fun g=>Q g∨Wc<=g) (x.rest s) (.agg #[.bool lf2,.int .i64 pg2,.slice ka2 kn2 kc2,.slice va2 vn2 vc2,.slice oa2 on2 oc2,.slice ya2 yn2 yc2])):=hR
     clear hb10 hA hR hWc
     refine hK.out _ _ (hbc_) (fun hHeld=>?_)
     clear hK K
     refine tY 11 (.tuple #[.agg #[.bool lf1,.int .i64 pg1,.slice ka1 kn1 kc1,.slice va1 vn1 vc1,.slice oa1 on1 oc1,.slice ya1 yn1 yc1],.agg #[.bool lf2,.int .i64 pg2,.slice ka2 kn2 kc2,.slice va2 vn2 vc2,.slice oa2 on2 oc2,.slice ya2 yn2 yc2]]) (.t (.s .z)) (by kernel_rfl) (by rfl) ?_ ‹_› ?_
     ·intro wq hSw;go_simp
     refine tY 12 (.agg #[.bool lf1,.int .i64 pg1,.slice ka1 kn1 kc1,.slice va1 vn1 vc1,.slice oa1 on1 oc1,.slice ya1 yn1 yc1]) (.t (.s (.s .z))) (by kernel_rfl) (by rfl) ?_ ‹_› ?_
     ·intro wq hSw;go_simp
     refine tY 13 (.agg #[.bool lf2,.int .i64 pg2,.slice ka2 kn2 kc2,.slice va2 vn2 vc2,.slice oa2 on2 oc2,.slice ya2 yn2 yc2]) (.t (.s (.s (.s .z)))) (by kernel_rfl) (by rfl) ?_ ‹_› ?_
     ·intro wq hSw;go_simp
     try simp only[Act.put,q1,q2,q3]
     refine wpAnyH_ready (rs:=[16]) (by kernel_rfl) (by simp) ?_
     refine rdA (.t (.f (.s .z))) (fun K hK=>?_) AllReadyH.nil
     have hne:α≠β:=by first | exact hαβ | exact hαβ.symm
     obtain⟨g1,g2,g3⟩:=partBox HQV.out hVc HA.out HR.out h10 hbc_ kα kβ hVα hVβ hne nα nβ
     have HFIN:Hid (PartBox V _ Q (x.fore s) (x.rest s) α β):=g3
     have fα:=thawT kα
     obtain⟨y0,y1,y2,y3,y4,y5⟩:=box6g kα
     have lα9:=(Array.getElem?_eq_some_iff.1 kα).1
     go_simp
     clear y0 y1 y2 y3 y4 y5
     rw[put6T_eq]
     generalize hY:put6T w10 α (.bool lf1) (.int .i64 pg1) (.slice ka1 kn1 kc1) (.slice va1 vn1 vc1) (.slice oa1 on1 oc1) (.slice ya1 yn1 yc1)=Y at g1 g2 HFIN ⊢
     clear hY
     refine hK.out _ _ (g2) (fun hHeld=>?_)
     clear hK K
     try simp only[Act.put,q1,q2,q3]
     refine wpAnyH_ready (rs:=[17]) (by kernel_rfl) (by simp) ?_
     refine rdA (.t (.f (.s (.s .z)))) (fun K hK=>?_) AllReadyH.nil
     have fβ:=thawT g1
     obtain⟨y0,y1,y2,y3,y4,y5⟩:=box6g g1
     have lβ9:=(Array.getElem?_eq_some_iff.1 g1).1
     go_simp
     clear y0 y1 y2 y3 y4 y5
     rw[put6T_eq]
     generalize put6T Y β (.bool lf2) (.int .i64 pg2) (.slice ka2 kn2 kc2) (.slice va2 vn2 vc2) (.slice oa2 on2 oc2) (.slice ya2 yn2 yc2)=Z at HFIN ⊢
     refine hK.out _ _ (by obtain⟨_,_,_,_,_,_,_,_,_,_,_,_,_,_,_,_,_,_,_,_,_,_,_,_,_,_,_,_,_,_,_,_,_,_,h9⟩:=HFIN.out;exact h9) (fun hHeld=>?_)
     clear hK K
     try simp only[Act.put,q1,q2,q3]
     refine wpAnyH_done (by kernel_rfl) ?_ _
     refine NoPanic.normal ?_
     clear hHeld g1 g2 kα kβ hbc_ h10 nα nβ
     go_wp2_with fail
     go_meet
     exact⟨α,β,rfl,rfl,HFIN⟩
  ·go_simp
   have kα:=heap_alloc_new V1 (.cells #[.bool false,.int .i64 0,.slice none 0 0,.slice none 0 0,.slice none 0 0,.slice none 0 0] 47)
   have hbz:Below V1.heap.size V1 (V1.alloc (.cells #[.bool false,.int .i64 0,.slice none 0 0,.slice none 0 0,.slice none 0 0,.slice none 0 0] 47)):=(Below.refl _ _).alloc (Nat.le_refl _) _
   have hVα:V.heap.size<=V1.heap.size:=hbc_.size
   obtain⟨α,he⟩:∃ α,α=V1.heap.size:=⟨_,rfl⟩
   rw[<-he] at kα hVα ⊢
   generalize V1.alloc (.cells #[.bool false,.int .i64 0,.slice none 0 0,.slice none 0 0,.slice none 0 0,.slice none 0 0] 47)=W17 at kα hbz ⊢
   skip
   replace hbc_:=hbc_.trans (hbz.mono hbc_.size)
   clear he hbz
   refine hK.out _ _ (hbc_) (fun hHeld=>?_)
   clear hK K
   try simp only[Act.put,q1,q2,q3]
   refine wpAnyH_ready (rs:=[8,15]) (by kernel_rfl) (by simp) ?_
   refine rdA (.f (.s (.s (.s .z)))) (fun K hK=>?_) ?_
   rotate_left 1
   refine rdA (.t (.f .z)) (fun K hK=>?_) ?_
   rotate_left 1
   exact AllReadyH.nil
   ·go_simp
    refine (HSZ.out W17).mono ?_
    rintro e W18 ⟨rfl,hb8⟩
    go_wp2_with fail
    replace kα:=(hb8.block α (Array.getElem?_eq_some_iff.1 kα).1).trans kα
    replace hbc_:=hbc_.trans (hb8.mono hbc_.size)
    clear hb8
    refine hK.out _ _ (hbc_) (fun hHeld=>?_)
    clear hK K
    refine tY 9 (.int .i64 (s:Int)) (.f (.s (.s (.s (.s .z))))) (by kernel_rfl) (by rfl) ?_ ‹_› ?_
    ·intro wq hSw;go_simp<;>first|(rw[IntKind.wrap_i64];omega)|omega|simp
    try simp only[Act.put,q1,q2,q3]
    refine wpAnyH_ready (rs:=[10,15]) (by kernel_rfl) (by simp) ?_
    refine rdA (.t .z) (fun K hK=>?_) ?_
    rotate_left 1
    refine rdA (.t (.f .z)) (fun K hK=>?_) ?_
    rotate_left 1
    exact AllReadyH.nil
    ·go_simp
     refine (HPT.out W18 hbc_).mono ?_
     rintro e w10 ⟨v1,v2,rfl,hA,hR,hb10⟩
     obtain⟨lf1,pg1,ka1,kn1,kc1,va1,vn1,vc1,oa1,on1,oc1,ya1,yn1,yc1,rfl⟩:=hA.letters
     obtain⟨lf2,pg2,ka2,kn2,kc2,va2,vn2,vc2,oa2,on2,oc2,ya2,yn2,yc2,rfl⟩:=hR.letters
     go_wp2_with fail
     obtain⟨Wc,hWc⟩:∃ Wc,W18.heap.size=Wc:=⟨_,rfl⟩
     have hVc:V.heap.size<=Wc:=by rw[<-hWc];exact hbc_.size
     rw[hWc] at hA hR
     have lα:=(Array.getElem?_eq_some_iff.1 kα).1
     have nα:∀ g,(Q g∨Wc<=g)->g<w10.heap.size->g≠α:=fun g h1 h2=>by rcases h1 with h1 | h1;(have:=HQV.out g h1;omega);omega
     replace kα:=(hb10.block α lα).trans kα
     replace hbc_:=hbc_.trans (hb10.mono hbc_.size)
     have h10:Below w10.heap.size w10 w10:=Below.refl _ _
     have HA:Hid (SN w10 (fun g=>Q g∨Wc<=g) (x.fore s) (.agg #[.bool lf1,.int .i64 pg1,.slice ka1 kn1 kc1,.slice va1 vn1 vc1,.slice oa1 on1 oc1,.slice ya1 yn1 yc1])):=hA
     have HR:Hid (SN w10 (fun g=>Q g∨Wc<=g) (x.rest s) (.agg #[.bool lf2,.int .i64 pg2,.slice ka2 kn2 kc2,.slice va2 vn2 vc2,.slice oa2 on2 oc2,.slice ya2 yn2 yc2])):=hR
     clear hb10 hA hR hWc
     refine hK.out _ _ (hbc_) (fun hHeld=>?_)
     clear hK K
     refine tY 11 (.tuple #[.agg #[.bool lf1,.int .i64 pg1,.slice ka1 kn1 kc1,.slice va1 vn1 vc1,.slice oa1 on1 oc1,.slice ya1 yn1 yc1],.agg #[.bool lf2,.int .i64 pg2,.slice ka2 kn2 kc2,.slice va2 vn2 vc2,.slice oa2 on2 oc2,.slice ya2 yn2 yc2]]) (.t (.s .z)) (by kernel_rfl) (by rfl) ?_ ‹_› ?_
     ·intro wq hSw;go_simp
     refine tY 12 (.agg #[.bool lf1,.int .i64 pg1,.slice ka1 kn1 kc1,.slice va1 vn1 vc1,.slice oa1 on1 oc1,.slice ya1 yn1 yc1]) (.t (.s (.s .z))) (by kernel_rfl) (by rfl) ?_ ‹_› ?_
     ·intro wq hSw;go_simp
     refine tY 13 (.agg #[.bool lf2,.int .i64 pg2,.slice ka2 kn2 kc2,.slice va2 vn2 vc2,.slice oa2 on2 oc2,.slice ya2 yn2 yc2]) (.t (.s (.s (.s .z)))) (by kernel_rfl) (by rfl) ?_ ‹_› ?_
     ·intro wq hSw;go_simp
     try simp only[Act.put,q1,q2,q3]
     refine wpAnyH_ready (rs:=[15]) (by kernel_rfl) (by simp) ?_
     refine rdA (.t (.f .z)) (fun K hK=>?_) AllReadyH.nil
     go_simp
     have kβ:=heap_alloc_new w10 (.cells #[.bool false,.int .i64 0,.slice none 0 0,.slice none 0 0,.slice none 0 0,.slice none 0 0] 47)
     have hbz:Below w10.heap.size w10 (w10.alloc (.cells #[.bool false,.int .i64 0,.slice none 0 0,.slice none 0 0,.slice none 0 0,.slice none 0 0] 47)):=(Below.refl _ _).alloc (Nat.le_refl _) _
     have hVβ:V.heap.size<=w10.heap.size:=hbc_.size
     obtain⟨β,he⟩:∃ β,β=w10.heap.size:=⟨_,rfl⟩
     rw[<-he] at kβ hVβ ⊢
     have nβ:∀ g,(Q g∨Wc<=g)->g<w10.heap.size->g≠β:=fun g h1 h2=>by have:=h10.size;omega
     have hαβ:α≠β:=by have:=(Array.getElem?_eq_some_iff.1 kα).1;omega
     generalize w10.alloc (.cells #[.bool false,.int .i64 0,.slice none 0 0,.slice none 0 0,.slice none 0 0,.slice none 0 0] 47)=W20 at kβ hbz ⊢
     skip
     replace kα:=(hbz.block α (Array.getElem?_eq_some_iff.1 kα).1).trans kα
     replace h10:=h10.trans (hbz.mono h10.size)
     replace hbc_:=hbc_.trans (hbz.mono hbc_.size)
     clear he hbz
     refine hK.out _ _ (hbc_) (fun hHeld=>?_)
     clear hK K
     try simp only[Act.put,q1,q2,q3]
     refine wpAnyH_ready (rs:=[16]) (by kernel_rfl) (by simp) ?_
     refine rdA (.t (.f (.s .z))) (fun K hK=>?_) AllReadyH.nil
     have hne:α≠β:=by first | exact hαβ | exact hαβ.symm
     obtain⟨g1,g2,g3⟩:=partBox HQV.out hVc HA.out HR.out h10 hbc_ kα kβ hVα hVβ hne nα nβ
     have HFIN:Hid (PartBox V _ Q (x.fore s) (x.rest s) α β):=g3
     have fα:=thawT kα
     obtain⟨y0,y1,y2,y3,y4,y5⟩:=box6g kα
     have lα9:=(Array.getElem?_eq_some_iff.1 kα).1
     go_simp
     clear y0 y1 y2 y3 y4 y5
     rw[put6T_eq]
     generalize hY:put6T W20 α (.bool lf1) (.int .i64 pg1) (.slice ka1 kn1 kc1) (.slice va1 vn1 vc1) (.slice oa1 on1 oc1) (.slice ya1 yn1 yc1)=Y at g1 g2 HFIN ⊢
     clear hY
     refine hK.out _ _ (g2) (fun hHeld=>?_)
     clear hK K
     try simp only[Act.put,q1,q2,q3]
     refine wpAnyH_ready (rs:=[17]) (by kernel_rfl) (by simp) ?_
     refine rdA (.t (.f (.s (.s .z)))) (fun K hK=>?_) AllReadyH.nil
     have fβ:=thawT g1
     obtain⟨y0,y1,y2,y3,y4,y5⟩:=box6g g1
     have lβ9:=(Array.getElem?_eq_some_iff.1 g1).1
     go_simp
     clear y0 y1 y2 y3 y4 y5
     rw[put6T_eq]
     generalize put6T Y β (.bool lf2) (.int .i64 pg2) (.slice ka2 kn2 kc2) (.slice va2 vn2 vc2) (.slice oa2 on2 oc2) (.slice ya2 yn2 yc2)=Z at HFIN ⊢
     refine hK.out _ _ (by obtain⟨_,_,_,_,_,_,_,_,_,_,_,_,_,_,_,_,_,_,_,_,_,_,_,_,_,_,_,_,_,_,_,_,_,_,h9⟩:=HFIN.out;exact h9) (fun hHeld=>?_)
     clear hK K
     try simp only[Act.put,q1,q2,q3]
     refine wpAnyH_done (by kernel_rfl) ?_ _
     refine NoPanic.normal ?_
     clear hHeld g1 g2 kα kβ hbc_ h10 nα nβ
     go_wp2_with fail
     go_meet
     exact⟨α,β,rfl,rfl,HFIN⟩
    ·go_simp
     have kβ:=heap_alloc_new W18 (.cells #[.bool false,.int .i64 0,.slice none 0 0,.slice none 0 0,.slice none 0 0,.slice none 0 0] 47)
     have hbz:Below W18.heap.size W18 (W18.alloc (.cells #[.bool false,.int .i64 0,.slice none 0 0,.slice none 0 0,.slice none 0 0,.slice none 0 0] 47)):=(Below.refl _ _).alloc (Nat.le_refl _) _
     have hVβ:V.heap.size<=W18.heap.size:=hbc_.size
     obtain⟨β,he⟩:∃ β,β=W18.heap.size:=⟨_,rfl⟩
     rw[<-he] at kβ hVβ ⊢
     have hαβ:α≠β:=by have:=(Array.getElem?_eq_some_iff.1 kα).1;omega
     generalize W18.alloc (.cells #[.bool false,.int .i64 0,.slice none 0 0,.slice none 0 0,.slice none 0 0,.slice none 0 0] 47)=W21 at kβ hbz ⊢
     skip
     replace kα:=(hbz.block α (Array.getElem?_eq_some_iff.1 kα).1).trans kα
     replace hbc_:=hbc_.trans (hbz.mono hbc_.size)
     clear he hbz
     refine hK.out _ _ (hbc_) (fun hHeld=>?_)
     clear hK K
     try simp only[Act.put,q1,q2,q3]
     refine wpAnyH_ready (rs:=[10]) (by kernel_rfl) (by simp) ?_
     refine rdA (.t .z) (fun K hK=>?_) AllReadyH.nil
     go_simp
     refine (HPT.out W21 hbc_).mono ?_
     rintro e w10 ⟨v1,v2,rfl,hA,hR,hb10⟩
     obtain⟨lf1,pg1,ka1,kn1,kc1,va1,vn1,vc1,oa1,on1,oc1,ya1,yn1,yc1,rfl⟩:=hA.letters
     obtain⟨lf2,pg2,ka2,kn2,kc2,va2,vn2,vc2,oa2,on2,oc2,ya2,yn2,yc2,rfl⟩:=hR.letters
     go_wp2_with fail
     obtain⟨Wc,hWc⟩:∃ Wc,W21.heap.size=Wc:=⟨_,rfl⟩
     have hVc:V.heap.size<=Wc:=by rw[<-hWc];exact hbc_.size
     rw[hWc] at hA hR
     have lα:=(Array.getElem?_eq_some_iff.1 kα).1
     have nα:∀ g,(Q g∨Wc<=g)->g<w10.heap.size->g≠α:=fun g h1 h2=>by rcases h1 with h1 | h1;(have:=HQV.out g h1;omega);omega
     replace kα:=(hb10.block α lα).trans kα
     have lβ:=(Array.getElem?_eq_some_iff.1 kβ).1
     have nβ:∀ g,(Q g∨Wc<=g)->g<w10.heap.size->g≠β:=fun g h1 h2=>by rcases h1 with h1 | h1;(have:=HQV.out g h1;omega);omega
     replace kβ:=(hb10.block β lβ).trans kβ
     replace hbc_:=hbc_.trans (hb10.mono hbc_.size)
     have h10:Below w10.heap.size w10 w10:=Below.refl _ _
     have HA:Hid (SN w10 (fun g=>Q g∨Wc<=g) (x.fore s) (.agg #[.bool lf1,.int .i64 pg1,.slice ka1 kn1 kc1,.slice va1 vn1 vc1,.slice oa1 on1 oc1,.slice ya1 yn1 yc1])):=hA
     have HR:Hid (SN w10 (fun g=>Q g∨Wc<=g) (x.rest s) (.agg #[.bool lf2,.int .i64 pg2,.slice ka2 kn2 kc2,.slice va2 vn2 vc2,.slice oa2 on2 oc2,.slice ya2 yn2 yc2])):=hR
     clear hb10 hA hR hWc
     refine hK.out _ _ (hbc_) (fun hHeld=>?_)
     clear hK K
     refine tY 11 (.tuple #[.agg #[.bool lf1,.int .i64 pg1,.slice ka1 kn1 kc1,.slice va1 vn1 vc1,.slice oa1 on1 oc1,.slice ya1 yn1 yc1],.agg #[.bool lf2,.int .i64 pg2,.slice ka2 kn2 kc2,.slice va2 vn2 vc2,.slice oa2 on2 oc2,.slice ya2 yn2 yc2]]) (.t (.s .z)) (by kernel_rfl) (by rfl) ?_ ‹_› ?_
     ·intro wq hSw;go_simp
     refine tY 12 (.agg #[.bool lf1,.int .i64 pg1,.slice ka1 kn1 kc1,.slice va1 vn1 vc1,.slice oa1 on1 oc1,.slice ya1 yn1 yc1]) (.t (.s (.s .z))) (by kernel_rfl) (by rfl) ?_ ‹_› ?_
     ·intro wq hSw;go_simp
     refine tY 13 (.agg #[.bool lf2,.int .i64 pg2,.slice ka2 kn2 kc2,.slice va2 vn2 vc2,.slice oa2 on2 oc2,.slice ya2 yn2 yc2]) (.t (.s (.s (.s .z)))) (by kernel_rfl) (by rfl) ?_ ‹_› ?_
     ·intro wq hSw;go_simp
     try simp only[Act.put,q1,q2,q3]
     refine wpAnyH_ready (rs:=[16]) (by kernel_rfl) (by simp) ?_
     refine rdA (.t (.f (.s .z))) (fun K hK=>?_) AllReadyH.nil
     have hne:α≠β:=by first | exact hαβ | exact hαβ.symm
     obtain⟨g1,g2,g3⟩:=partBox HQV.out hVc HA.out HR.out h10 hbc_ kα kβ hVα hVβ hne nα nβ
     have HFIN:Hid (PartBox V _ Q (x.fore s) (x.rest s) α β):=g3
     have fα:=thawT kα
     obtain⟨y0,y1,y2,y3,y4,y5⟩:=box6g kα
     have lα9:=(Array.getElem?_eq_some_iff.1 kα).1
     go_simp
     clear y0 y1 y2 y3 y4 y5
     rw[put6T_eq]
     generalize hY:put6T w10 α (.bool lf1) (.int .i64 pg1) (.slice ka1 kn1 kc1) (.slice va1 vn1 vc1) (.slice oa1 on1 oc1) (.slice ya1 yn1 yc1)=Y at g1 g2 HFIN ⊢
     clear hY
     refine hK.out _ _ (g2) (fun hHeld=>?_)
     clear hK K
     try simp only[Act.put,q1,q2,q3]
     refine wpAnyH_ready (rs:=[17]) (by kernel_rfl) (by simp) ?_
     refine rdA (.t (.f (.s (.s .z)))) (fun K hK=>?_) AllReadyH.nil
     have fβ:=thawT g1
     obtain⟨y0,y1,y2,y3,y4,y5⟩:=box6g g1
     have lβ9:=(Array.getElem?_eq_some_iff.1 g1).1
     go_simp
     clear y0 y1 y2 y3 y4 y5
     rw[put6T_eq]
     generalize put6T Y β (.bool lf2) (.int .i64 pg2) (.slice ka2 kn2 kc2) (.slice va2 vn2 vc2) (.slice oa2 on2 oc2) (.slice ya2 yn2 yc2)=Z at HFIN ⊢
     refine hK.out _ _ (by obtain⟨_,_,_,_,_,_,_,_,_,_,_,_,_,_,_,_,_,_,_,_,_,_,_,_,_,_,_,_,_,_,_,_,_,_,h9⟩:=HFIN.out;exact h9) (fun hHeld=>?_)
     clear hK K
     try simp only[Act.put,q1,q2,q3]
     refine wpAnyH_done (by kernel_rfl) ?_ _
     refine NoPanic.normal ?_
     clear hHeld g1 g2 kα kβ hbc_ h10 nα nβ
     go_wp2_with fail
     go_meet
     exact⟨α,β,rfl,rfl,HFIN⟩
   ·go_simp
    have kβ:=heap_alloc_new W17 (.cells #[.bool false,.int .i64 0,.slice none 0 0,.slice none 0 0,.slice none 0 0,.slice none 0 0] 47)
    have hbz:Below W17.heap.size W17 (W17.alloc (.cells #[.bool false,.int .i64 0,.slice none 0 0,.slice none 0 0,.slice none 0 0,.slice none 0 0] 47)):=(Below.refl _ _).alloc (Nat.le_refl _) _
    have hVβ:V.heap.size<=W17.heap.size:=hbc_.size
    obtain⟨β,he⟩:∃ β,β=W17.heap.size:=⟨_,rfl⟩
    rw[<-he] at kβ hVβ ⊢
    have hαβ:α≠β:=by have:=(Array.getElem?_eq_some_iff.1 kα).1;omega
    generalize W17.alloc (.cells #[.bool false,.int .i64 0,.slice none 0 0,.slice none 0 0,.slice none 0 0,.slice none 0 0] 47)=W23 at kβ hbz ⊢
    skip
    replace kα:=(hbz.block α (Array.getElem?_eq_some_iff.1 kα).1).trans kα
    replace hbc_:=hbc_.trans (hbz.mono hbc_.size)
    clear he hbz
    refine hK.out _ _ (hbc_) (fun hHeld=>?_)
    clear hK K
    try simp only[Act.put,q1,q2,q3]
    refine wpAnyH_ready (rs:=[8]) (by kernel_rfl) (by simp) ?_
    refine rdA (.f (.s (.s (.s .z)))) (fun K hK=>?_) AllReadyH.nil
    go_simp
    refine (HSZ.out W23).mono ?_
    rintro e W24 ⟨rfl,hb8⟩
    go_wp2_with fail
    replace kα:=(hb8.block α (Array.getElem?_eq_some_iff.1 kα).1).trans kα
    replace kβ:=(hb8.block β (Array.getElem?_eq_some_iff.1 kβ).1).trans kβ
    replace hbc_:=hbc_.trans (hb8.mono hbc_.size)
    clear hb8
    refine hK.out _ _ (hbc_) (fun hHeld=>?_)
    clear hK K
    refine tY 9 (.int .i64 (s:Int)) (.f (.s (.s (.s (.s .z))))) (by kernel_rfl) (by rfl) ?_ ‹_› ?_
    ·intro wq hSw;go_simp<;>first|(rw[IntKind.wrap_i64];omega)|omega|simp
    try simp only[Act.put,q1,q2,q3]
    refine wpAnyH_ready (rs:=[10]) (by kernel_rfl) (by simp) ?_
    refine rdA (.t .z) (fun K hK=>?_) AllReadyH.nil
    go_simp
    refine (HPT.out W24 hbc_).mono ?_
    rintro e w10 ⟨v1,v2,rfl,hA,hR,hb10⟩
    obtain⟨lf1,pg1,ka1,kn1,kc1,va1,vn1,vc1,oa1,on1,oc1,ya1,yn1,yc1,rfl⟩:=hA.letters
    obtain⟨lf2,pg2,ka2,kn2,kc2,va2,vn2,vc2,oa2,on2,oc2,ya2,yn2,yc2,rfl⟩:=hR.letters
    go_wp2_with fail
    obtain⟨Wc,hWc⟩:∃ Wc,W24.heap.size=Wc:=⟨_,rfl⟩
    have hVc:V.heap.size<=Wc:=by rw[<-hWc];exact hbc_.size
    rw[hWc] at hA hR
    have lα:=(Array.getElem?_eq_some_iff.1 kα).1
    have nα:∀ g,(Q g∨Wc<=g)->g<w10.heap.size->g≠α:=fun g h1 h2=>by rcases h1 with h1 | h1;(have:=HQV.out g h1;omega);omega
    replace kα:=(hb10.block α lα).trans kα
    have lβ:=(Array.getElem?_eq_some_iff.1 kβ).1
    have nβ:∀ g,(Q g∨Wc<=g)->g<w10.heap.size->g≠β:=fun g h1 h2=>by rcases h1 with h1 | h1;(have:=HQV.out g h1;omega);omega
    replace kβ:=(hb10.block β lβ).trans kβ
    replace hbc_:=hbc_.trans (hb10.mono hbc_.size)
    have h10:Below w10.heap.size w10 w10:=Below.refl _ _
    have HA:Hid (SN w10 (fun g=>Q g∨Wc<=g) (x.fore s) (.agg #[.bool lf1,.int .i64 pg1,.slice ka1 kn1 kc1,.slice va1 vn1 vc1,.slice oa1 on1 oc1,.slice ya1 yn1 yc1])):=hA
    have HR:Hid (SN w10 (fun g=>Q g∨Wc<=g) (x.rest s) (.agg #[.bool lf2,.int .i64 pg2,.slice ka2 kn2 kc2,.slice va2 vn2 vc2,.slice oa2 on2 oc2,.slice ya2 yn2 yc2])):=hR
    clear hb10 hA hR hWc
    refine hK.out _ _ (hbc_) (fun hHeld=>?_)
    clear hK K
    refine tY 11 (.tuple #[.agg #[.bool lf1,.int .i64 pg1,.slice ka1 kn1 kc1,.slice va1 vn1 vc1,.slice oa1 on1 oc1,.slice ya1 yn1 yc1],.agg #[.bool lf2,.int .i64 pg2,.slice ka2 kn2 kc2,.slice va2 vn2 vc2,.slice oa2 on2 oc2,.slice ya2 yn2 yc2]]) (.t (.s .z)) (by kernel_rfl) (by rfl) ?_ ‹_› ?_
    ·intro wq hSw;go_simp
    refine tY 12 (.agg #[.bool lf1,.int .i64 pg1,.slice ka1 kn1 kc1,.slice va1 vn1 vc1,.slice oa1 on1 oc1,.slice ya1 yn1 yc1]) (.t (.s (.s .z))) (by kernel_rfl) (by rfl) ?_ ‹_› ?_
    ·intro wq hSw;go_simp
    refine tY 13 (.agg #[.bool lf2,.int .i64 pg2,.slice ka2 kn2 kc2,.slice va2 vn2 vc2,.slice oa2 on2 oc2,.slice ya2 yn2 yc2]) (.t (.s (.s (.s .z)))) (by kernel_rfl) (by rfl) ?_ ‹_› ?_
    ·intro wq hSw;go_simp
    try simp only[Act.put,q1,q2,q3]
    refine wpAnyH_ready (rs:=[16]) (by kernel_rfl) (by simp) ?_
    refine rdA (.t (.f (.s .z))) (fun K hK=>?_) AllReadyH.nil
    have hne:α≠β:=by first | exact hαβ | exact hαβ.symm
    obtain⟨g1,g2,g3⟩:=partBox HQV.out hVc HA.out HR.out h10 hbc_ kα kβ hVα hVβ hne nα nβ
    have HFIN:Hid (PartBox V _ Q (x.fore s) (x.rest s) α β):=g3
    have fα:=thawT kα
    obtain⟨y0,y1,y2,y3,y4,y5⟩:=box6g kα
    have lα9:=(Array.getElem?_eq_some_iff.1 kα).1
    go_simp
    clear y0 y1 y2 y3 y4 y5
    rw[put6T_eq]
    generalize hY:put6T w10 α (.bool lf1) (.int .i64 pg1) (.slice ka1 kn1 kc1) (.slice va1 vn1 vc1) (.slice oa1 on1 oc1) (.slice ya1 yn1 yc1)=Y at g1 g2 HFIN ⊢
    clear hY
    refine hK.out _ _ (g2) (fun hHeld=>?_)
    clear hK K
    try simp only[Act.put,q1,q2,q3]
    refine wpAnyH_ready (rs:=[17]) (by kernel_rfl) (by simp) ?_
    refine rdA (.t (.f (.s (.s .z)))) (fun K hK=>?_) AllReadyH.nil
    have fβ:=thawT g1
    obtain⟨y0,y1,y2,y3,y4,y5⟩:=box6g g1
    have lβ9:=(Array.getElem?_eq_some_iff.1 g1).1
    go_simp
    clear y0 y1 y2 y3 y4 y5
    rw[put6T_eq]
    generalize put6T Y β (.bool lf2) (.int .i64 pg2) (.slice ka2 kn2 kc2) (.slice va2 vn2 vc2) (.slice oa2 on2 oc2) (.slice ya2 yn2 yc2)=Z at HFIN ⊢
    refine hK.out _ _ (by obtain⟨_,_,_,_,_,_,_,_,_,_,_,_,_,_,_,_,_,_,_,_,_,_,_,_,_,_,_,_,_,_,_,_,_,_,h9⟩:=HFIN.out;exact h9) (fun hHeld=>?_)
    clear hK K
    try simp only[Act.put,q1,q2,q3]
    refine wpAnyH_done (by kernel_rfl) ?_ _
    refine NoPanic.normal ?_
    clear hHeld g1 g2 kα kβ hbc_ h10 nα nβ
    go_wp2_with fail
    go_meet
    exact⟨α,β,rfl,rfl,HFIN⟩
  ·go_simp
   have kβ:=heap_alloc_new V1 (.cells #[.bool false,.int .i64 0,.slice none 0 0,.slice none 0 0,.slice none 0 0,.slice none 0 0] 47)
   have hbz:Below V1.heap.size V1 (V1.alloc (.cells #[.bool false,.int .i64 0,.slice none 0 0,.slice none 0 0,.slice none 0 0,.slice none 0 0] 47)):=(Below.refl _ _).alloc (Nat.le_refl _) _
   have hVβ:V.heap.size<=V1.heap.size:=hbc_.size
   obtain⟨β,he⟩:∃ β,β=V1.heap.size:=⟨_,rfl⟩
   rw[<-he] at kβ hVβ ⊢
   generalize V1.alloc (.cells #[.bool false,.int .i64 0,.slice none 0 0,.slice none 0 0,.slice none 0 0,.slice none 0 0] 47)=W26 at kβ hbz ⊢
   skip
   replace hbc_:=hbc_.trans (hbz.mono hbc_.size)
   clear he hbz
   refine hK.out _ _ (hbc_) (fun hHeld=>?_)
   clear hK K
   try simp only[Act.put,q1,q2,q3]
   refine wpAnyH_ready (rs:=[8,14]) (by kernel_rfl) (by simp) ?_
   refine rdA (.f (.s (.s (.s .z)))) (fun K hK=>?_) ?_
   rotate_left 1
   refine rdA (.t (.s (.s (.s (.s .z))))) (fun K hK=>?_) ?_
   rotate_left 1
   exact AllReadyH.nil
   ·go_simp
    refine (HSZ.out W26).mono ?_
    rintro e W27 ⟨rfl,hb8⟩
    go_wp2_with fail
    replace kβ:=(hb8.block β (Array.getElem?_eq_some_iff.1 kβ).1).trans kβ
    replace hbc_:=hbc_.trans (hb8.mono hbc_.size)
    clear hb8
    refine hK.out _ _ (hbc_) (fun hHeld=>?_)
    clear hK K
    refine tY 9 (.int .i64 (s:Int)) (.f (.s (.s (.s (.s .z))))) (by kernel_rfl) (by rfl) ?_ ‹_› ?_
    ·intro wq hSw;go_simp<;>first|(rw[IntKind.wrap_i64];omega)|omega|simp
    try simp only[Act.put,q1,q2,q3]
    refine wpAnyH_ready (rs:=[10,14]) (by kernel_rfl) (by simp) ?_
    refine rdA (.t .z) (fun K hK=>?_) ?_
    rotate_left 1
    refine rdA (.t (.s (.s (.s (.s .z))))) (fun K hK=>?_) ?_
    rotate_left 1
    exact AllReadyH.nil
    ·go_simp
     refine (HPT.out W27 hbc_).mono ?_
     rintro e w10 ⟨v1,v2,rfl,hA,hR,hb10⟩
     obtain⟨lf1,pg1,ka1,kn1,kc1,va1,vn1,vc1,oa1,on1,oc1,ya1,yn1,yc1,rfl⟩:=hA.letters
     obtain⟨lf2,pg2,ka2,kn2,kc2,va2,vn2,vc2,oa2,on2,oc2,ya2,yn2,yc2,rfl⟩:=hR.letters
     go_wp2_with fail
     obtain⟨Wc,hWc⟩:∃ Wc,W27.heap.size=Wc:=⟨_,rfl⟩
     have hVc:V.heap.size<=Wc:=by rw[<-hWc];exact hbc_.size
     rw[hWc] at hA hR
     have lβ:=(Array.getElem?_eq_some_iff.1 kβ).1
     have nβ:∀ g,(Q g∨Wc<=g)->g<w10.heap.size->g≠β:=fun g h1 h2=>by rcases h1 with h1 | h1;(have:=HQV.out g h1;omega);omega
     replace kβ:=(hb10.block β lβ).trans kβ
     replace hbc_:=hbc_.trans (hb10.mono hbc_.size)
     have h10:Below w10.heap.size w10 w10:=Below.refl _ _
     have HA:Hid (SN w10 (fun g=>Q g∨Wc<=g) (x.fore s) (.agg #[.bool lf1,.int .i64 pg1,.slice ka1 kn1 kc1,.slice va1 vn1 vc1,.slice oa1 on1 oc1,.slice ya1 yn1 yc1])):=hA
     have HR:Hid (SN w10 (fun g=>Q g∨Wc<=g) (x.rest s) (.agg #[.bool lf2,.int .i64 pg2,.slice ka2 kn2 kc2,.slice va2 vn2 vc2,.slice oa2 on2 oc2,.slice ya2 yn2 yc2])):=hR
     clear hb10 hA hR hWc
     refine hK.out _ _ (hbc_) (fun hHeld=>?_)
     clear hK K
     refine tY 11 (.tuple #[.agg #[.bool lf1,.int .i64 pg1,.slice ka1 kn1 kc1,.slice va1 vn1 vc1,.slice oa1 on1 oc1,.slice ya1 yn1 yc1],.agg #[.bool lf2,.int .i64 pg2,.slice ka2 kn2 kc2,.slice va2 vn2 vc2,.slice oa2 on2 oc2,.slice ya2 yn2 yc2]]) (.t (.s .z)) (by kernel_rfl) (by rfl) ?_ ‹_› ?_
     ·intro wq hSw;go_simp
     refine tY 12 (.agg #[.bool lf1,.int .i64 pg1,.slice ka1 kn1 kc1,.slice va1 vn1 vc1,.slice oa1 on1 oc1,.slice ya1 yn1 yc1]) (.t (.s (.s .z))) (by kernel_rfl) (by rfl) ?_ ‹_› ?_
     ·intro wq hSw;go_simp
     refine tY 13 (.agg #[.bool lf2,.int .i64 pg2,.slice ka2 kn2 kc2,.slice va2 vn2 vc2,.slice oa2 on2 oc2,.slice ya2 yn2 yc2]) (.t (.s (.s (.s .z)))) (by kernel_rfl) (by rfl) ?_ ‹_› ?_
     ·intro wq hSw;go_simp
     try simp only[Act.put,q1,q2,q3]
     refine wpAnyH_ready (rs:=[14]) (by kernel_rfl) (by simp) ?_
     refine rdA (.t (.s (.s (.s (.s .z))))) (fun K hK=>?_) AllReadyH.nil
     go_simp
     have kα:=heap_alloc_new w10 (.cells #[.bool false,.int .i64 0,.slice none 0 0,.slice none 0 0,.slice none 0 0,.slice none 0 0] 47)
     have hbz:Below w10.heap.size w10 (w10.alloc (.cells #[.bool false,.int .i64 0,.slice none 0 0,.slice none 0 0,.slice none 0 0,.slice none 0 0] 47)):=(Below.refl _ _).alloc (Nat.le_refl _) _
     have hVα:V.heap.size<=w10.heap.size:=hbc_.size
     obtain⟨α,he⟩:∃ α,α=w10.heap.size:=⟨_,rfl⟩
     rw[<-he] at kα hVα ⊢
     have nα:∀ g,(Q g∨Wc<=g)->g<w10.heap.size->g≠α:=fun g h1 h2=>by have:=h10.size;omega
     have hαβ:β≠α:=by have:=(Array.getElem?_eq_some_iff.1 kβ).1;omega
     generalize w10.alloc (.cells #[.bool false,.int .i64 0,.slice none 0 0,.slice none 0 0,.slice none 0 0,.slice none 0 0] 47)=W29 at kα hbz ⊢
     skip
     replace kβ:=(hbz.block β (Array.getElem?_eq_some_iff.1 kβ).1).trans kβ
     replace h10:=h10.trans (hbz.mono h10.size)
     replace hbc_:=hbc_.trans (hbz.mono hbc_.size)
     clear he hbz
     refine hK.out _ _ (hbc_) (fun hHeld=>?_)
     clear hK K
     try simp only[Act.put,q1,q2,q3]
     refine wpAnyH_ready (rs:=[16]) (by kernel_rfl) (by simp) ?_
     refine rdA (.t (.f (.s .z))) (fun K hK=>?_) AllReadyH.nil
     have hne:α≠β:=by first | exact hαβ | exact hαβ.symm
     obtain⟨g1,g2,g3⟩:=partBox HQV.out hVc HA.out HR.out h10 hbc_ kα kβ hVα hVβ hne nα nβ
     have HFIN:Hid (PartBox V _ Q (x.fore s) (x.rest s) α β):=g3
     have fα:=thawT kα
     obtain⟨y0,y1,y2,y3,y4,y5⟩:=box6g kα
     have lα9:=(Array.getElem?_eq_some_iff.1 kα).1
     go_simp
     clear y0 y1 y2 y3 y4 y5
     rw[put6T_eq]
     generalize hY:put6T W29 α (.bool lf1) (.int .i64 pg1) (.slice ka1 kn1 kc1) (.slice va1 vn1 vc1) (.slice oa1 on1 oc1) (.slice ya1 yn1 yc1)=Y at g1 g2 HFIN ⊢
     clear hY
     refine hK.out _ _ (g2) (fun hHeld=>?_)
     clear hK K
     try simp only[Act.put,q1,q2,q3]
     refine wpAnyH_ready (rs:=[17]) (by kernel_rfl) (by simp) ?_
     refine rdA (.t (.f (.s (.s .z)))) (fun K hK=>?_) AllReadyH.nil
     have fβ:=thawT g1
     obtain⟨y0,y1,y2,y3,y4,y5⟩:=box6g g1
     have lβ9:=(Array.getElem?_eq_some_iff.1 g1).1
     go_simp
     clear y0 y1 y2 y3 y4 y5
     rw[put6T_eq]
     generalize put6T Y β (.bool lf2) (.int .i64 pg2) (.slice ka2 kn2 kc2) (.slice va2 vn2 vc2) (.slice oa2 on2 oc2) (.slice ya2 yn2 yc2)=Z at HFIN ⊢
     refine hK.out _ _ (by obtain⟨_,_,_,_,_,_,_,_,_,_,_,_,_,_,_,_,_,_,_,_,_,_,_,_,_,_,_,_,_,_,_,_,_,_,h9⟩:=HFIN.out;exact h9) (fun hHeld=>?_)
     clear hK K
     try simp only[Act.put,q1,q2,q3]
     refine wpAnyH_done (by kernel_rfl) ?_ _
     refine NoPanic.normal ?_
     clear hHeld g1 g2 kα kβ hbc_ h10 nα nβ
     go_wp2_with fail
     go_meet
     exact⟨α,β,rfl,rfl,HFIN⟩
    ·go_simp
     have kα:=heap_alloc_new W27 (.cells #[.bool false,.int .i64 0,.slice none 0 0,.slice none 0 0,.slice none 0 0,.slice none 0 0] 47)
     have hbz:Below W27.heap.size W27 (W27.alloc (.cells #[.bool false,.int .i64 0,.slice none 0 0,.slice none 0 0,.slice none 0 0,.slice none 0 0] 47)):=(Below.refl _ _).alloc (Nat.le_refl _) _
     have hVα:V.heap.size<=W27.heap.size:=hbc_.size
     obtain⟨α,he⟩:∃ α,α=W27.heap.size:=⟨_,rfl⟩
     rw[<-he] at kα hVα ⊢
     have hαβ:β≠α:=by have:=(Array.getElem?_eq_some_iff.1 kβ).1;omega
     generalize W27.alloc (.cells #[.bool false,.int .i64 0,.slice none 0 0,.slice none 0 0,.slice none 0 0,.slice none 0 0] 47)=W30 at kα hbz ⊢
     skip
     replace kβ:=(hbz.block β (Array.getElem?_eq_some_iff.1 kβ).1).trans kβ
     replace hbc_:=hbc_.trans (hbz.mono hbc_.size)
     clear he hbz
     refine hK.out _ _ (hbc_) (fun hHeld=>?_)
     clear hK K
     try simp only[Act.put,q1,q2,q3]
     refine wpAnyH_ready (rs:=[10]) (by kernel_rfl) (by simp) ?_
     refine rdA (.t .z) (fun K hK=>?_) AllReadyH.nil
     go_simp
     refine (HPT.out W30 hbc_).mono ?_
     rintro e w10 ⟨v1,v2,rfl,hA,hR,hb10⟩
     obtain⟨lf1,pg1,ka1,kn1,kc1,va1,vn1,vc1,oa1,on1,oc1,ya1,yn1,yc1,rfl⟩:=hA.letters
     obtain⟨lf2,pg2,ka2,kn2,kc2,va2,vn2,vc2,oa2,on2,oc2,ya2,yn2,yc2,rfl⟩:=hR.letters
     go_wp2_with fail
     obtain⟨Wc,hWc⟩:∃ Wc,W30.heap.size=Wc:=⟨_,rfl⟩
     have hVc:V.heap.size<=Wc:=by rw[<-hWc];exact hbc_.size
     rw[hWc] at hA hR
     have lα:=(Array.getElem?_eq_some_iff.1 kα).1
     have nα:∀ g,(Q g∨Wc<=g)->g<w10.heap.size->g≠α:=fun g h1 h2=>by rcases h1 with h1 | h1;(have:=HQV.out g h1;omega);omega
     replace kα:=(hb10.block α lα).trans kα
     have lβ:=(Array.getElem?_eq_some_iff.1 kβ).1
     have nβ:∀ g,(Q g∨Wc<=g)->g<w10.heap.size->g≠β:=fun g h1 h2=>by rcases h1 with h1 | h1;(have:=HQV.out g h1;omega);omega
     replace kβ:=(hb10.block β lβ).trans kβ
     replace hbc_:=hbc_.trans (hb10.mono hbc_.size)
     have h10:Below w10.heap.size w10 w10:=Below.refl _ _
     have HA:Hid (SN w10 (fun g=>Q g∨Wc<=g) (x.fore s) (.agg #[.bool lf1,.int .i64 pg1,.slice ka1 kn1 kc1,.slice va1 vn1 vc1,.slice oa1 on1 oc1,.slice ya1 yn1 yc1])):=hA
     have HR:Hid (SN w10 (fun g=>Q g∨Wc<=g) (x.rest s) (.agg #[.bool lf2,.int .i64 pg2,.slice ka2 kn2 kc2,.slice va2 vn2 vc2,.slice oa2 on2 oc2,.slice ya2 yn2 yc2])):=hR
     clear hb10 hA hR hWc
     refine hK.out _ _ (hbc_) (fun hHeld=>?_)
     clear hK K
     refine tY 11 (.tuple #[.agg #[.bool lf1,.int .i64 pg1,.slice ka1 kn1 kc1,.slice va1 vn1 vc1,.slice oa1 on1 oc1,.slice ya1 yn1 yc1],.agg #[.bool lf2,.int .i64 pg2,.slice ka2 kn2 kc2,.slice va2 vn2 vc2,.slice oa2 on2 oc2,.slice ya2 yn2 yc2]]) (.t (.s .z)) (by kernel_rfl) (by rfl) ?_ ‹_› ?_
     ·intro wq hSw;go_simp
     refine tY 12 (.agg #[.bool lf1,.int .i64 pg1,.slice ka1 kn1 kc1,.slice va1 vn1 vc1,.slice oa1 on1 oc1,.slice ya1 yn1 yc1]) (.t (.s (.s .z))) (by kernel_rfl) (by rfl) ?_ ‹_› ?_
     ·intro wq hSw;go_simp
     refine tY 13 (.agg #[.bool lf2,.int .i64 pg2,.slice ka2 kn2 kc2,.slice va2 vn2 vc2,.slice oa2 on2 oc2,.slice ya2 yn2 yc2]) (.t (.s (.s (.s .z)))) (by kernel_rfl) (by rfl) ?_ ‹_› ?_
     ·intro wq hSw;go_simp
     try simp only[Act.put,q1,q2,q3]
     refine wpAnyH_ready (rs:=[16]) (by kernel_rfl) (by simp) ?_
     refine rdA (.t (.f (.s .z))) (fun K hK=>?_) AllReadyH.nil
     have hne:α≠β:=by first | exact hαβ | exact hαβ.symm
     obtain⟨g1,g2,g3⟩:=partBox HQV.out hVc HA.out HR.out h10 hbc_ kα kβ hVα hVβ hne nα nβ
     have HFIN:Hid (PartBox V _ Q (x.fore s) (x.rest s) α β):=g3
     have fα:=thawT kα
     obtain⟨y0,y1,y2,y3,y4,y5⟩:=box6g kα
     have lα9:=(Array.getElem?_eq_some_iff.1 kα).1
     go_simp
     clear y0 y1 y2 y3 y4 y5
     rw[put6T_eq]
     generalize hY:put6T w10 α (.bool lf1) (.int .i64 pg1) (.slice ka1 kn1 kc1) (.slice va1 vn1 vc1) (.slice oa1 on1 oc1) (.slice ya1 yn1 yc1)=Y at g1 g2 HFIN ⊢
     clear hY
     refine hK.out _ _ (g2) (fun hHeld=>?_)
     clear hK K
     try simp only[Act.put,q1,q2,q3]
     refine wpAnyH_ready (rs:=[17]) (by kernel_rfl) (by simp) ?_
     refine rdA (.t (.f (.s (.s .z)))) (fun K hK=>?_) AllReadyH.nil
     have fβ:=thawT g1
     obtain⟨y0,y1,y2,y3,y4,y5⟩:=box6g g1
     have lβ9:=(Array.getElem?_eq_some_iff.1 g1).1
     go_simp
     clear y0 y1 y2 y3 y4 y5
     rw[put6T_eq]
     generalize put6T Y β (.bool lf2) (.int .i64 pg2) (.slice ka2 kn2 kc2) (.slice va2 vn2 vc2) (.slice oa2 on2 oc2) (.slice ya2 yn2 yc2)=Z at HFIN ⊢
     refine hK.out _ _ (by obtain⟨_,_,_,_,_,_,_,_,_,_,_,_,_,_,_,_,_,_,_,_,_,_,_,_,_,_,_,_,_,_,_,_,_,_,h9⟩:=HFIN.out;exact h9) (fun hHeld=>?_)
     clear hK K
     try simp only[Act.put,q1,q2,q3]
     refine wpAnyH_done (by kernel_rfl) ?_ _
     refine NoPanic.normal ?_
     clear hHeld g1 g2 kα kβ hbc_ h10 nα nβ
     go_wp2_with fail
     go_meet
     exact⟨α,β,rfl,rfl,HFIN⟩
   ·go_simp
    have kα:=heap_alloc_new W26 (.cells #[.bool false,.int .i64 0,.slice none 0 0,.slice none 0 0,.slice none 0 0,.slice none 0 0] 47)
    have hbz:Below W26.heap.size W26 (W26.alloc (.cells #[.bool false,.int .i64 0,.slice none 0 0,.slice none 0 0,.slice none 0 0,.slice none 0 0] 47)):=(Below.refl _ _).alloc (Nat.le_refl _) _
    have hVα:V.heap.size<=W26.heap.size:=hbc_.size
    obtain⟨α,he⟩:∃ α,α=W26.heap.size:=⟨_,rfl⟩
    rw[<-he] at kα hVα ⊢
    have hαβ:β≠α:=by have:=(Array.getElem?_eq_some_iff.1 kβ).1;omega
    generalize W26.alloc (.cells #[.bool false,.int .i64 0,.slice none 0 0,.slice none 0 0,.slice none 0 0,.slice none 0 0] 47)=W32 at kα hbz ⊢
    skip
    replace kβ:=(hbz.block β (Array.getElem?_eq_some_iff.1 kβ).1).trans kβ
    replace hbc_:=hbc_.trans (hbz.mono hbc_.size)
    clear he hbz
    refine hK.out _ _ (hbc_) (fun hHeld=>?_)
    clear hK K
    try simp only[Act.put,q1,q2,q3]
    refine wpAnyH_ready (rs:=[8]) (by kernel_rfl) (by simp) ?_
    refine rdA (.f (.s (.s (.s .z)))) (fun K hK=>?_) AllReadyH.nil
    go_simp
    refine (HSZ.out W32).mono ?_
    rintro e W33 ⟨rfl,hb8⟩
    go_wp2_with fail
    replace kα:=(hb8.block α (Array.getElem?_eq_some_iff.1 kα).1).trans kα
    replace kβ:=(hb8.block β (Array.getElem?_eq_some_iff.1 kβ).1).trans kβ
    replace hbc_:=hbc_.trans (hb8.mono hbc_.size)
    clear hb8
    refine hK.out _ _ (hbc_) (fun hHeld=>?_)
    clear hK K
    refine tY 9 (.int .i64 (s:Int)) (.f (.s (.s (.s (.s .z))))) (by kernel_rfl) (by rfl) ?_ ‹_› ?_
    ·intro wq hSw;go_simp<;>first|(rw[IntKind.wrap_i64];omega)|omega|simp
    try simp only[Act.put,q1,q2,q3]
    refine wpAnyH_ready (rs:=[10]) (by kernel_rfl) (by simp) ?_
    refine rdA (.t .z) (fun K hK=>?_) AllReadyH.nil
    go_simp
    refine (HPT.out W33 hbc_).mono ?_
    rintro e w10 ⟨v1,v2,rfl,hA,hR,hb10⟩
    obtain⟨lf1,pg1,ka1,kn1,kc1,va1,vn1,vc1,oa1,on1,oc1,ya1,yn1,yc1,rfl⟩:=hA.letters
    obtain⟨lf2,pg2,ka2,kn2,kc2,va2,vn2,vc2,oa2,on2,oc2,ya2,yn2,yc2,rfl⟩:=hR.letters
    go_wp2_with fail
    obtain⟨Wc,hWc⟩:∃ Wc,W33.heap.size=Wc:=⟨_,rfl⟩
    have hVc:V.heap.size<=Wc:=by rw[<-hWc];exact hbc_.size
    rw[hWc] at hA hR
    have lα:=(Array.getElem?_eq_some_iff.1 kα).1
    have nα:∀ g,(Q g∨Wc<=g)->g<w10.heap.size->g≠α:=fun g h1 h2=>by rcases h1 with h1 | h1;(have:=HQV.out g h1;omega);omega
    replace kα:=(hb10.block α lα).trans kα
    have lβ:=(Array.getElem?_eq_some_iff.1 kβ).1
    have nβ:∀ g,(Q g∨Wc<=g)->g<w10.heap.size->g≠β:=fun g h1 h2=>by rcases h1 with h1 | h1;(have:=HQV.out g h1;omega);omega
    replace kβ:=(hb10.block β lβ).trans kβ
    replace hbc_:=hbc_.trans (hb10.mono hbc_.size)
    have h10:Below w10.heap.size w10 w10:=Below.refl _ _
    have HA:Hid (SN w10 (fun g=>Q g∨Wc<=g) (x.fore s) (.agg #[.bool lf1,.int .i64 pg1,.slice ka1 kn1 kc1,.slice va1 vn1 vc1,.slice oa1 on1 oc1,.slice ya1 yn1 yc1])):=hA
    have HR:Hid (SN w10 (fun g=>Q g∨Wc<=g) (x.rest s) (.agg #[.bool lf2,.int .i64 pg2,.slice ka2 kn2 kc2,.slice va2 vn2 vc2,.slice oa2 on2 oc2,.slice ya2 yn2 yc2])):=hR
    clear hb10 hA hR hWc
    refine hK.out _ _ (hbc_) (fun hHeld=>?_)
    clear hK K
    refine tY 11 (.tuple #[.agg #[.bool lf1,.int .i64 pg1,.slice ka1 kn1 kc1,.slice va1 vn1 vc1,.slice oa1 on1 oc1,.slice ya1 yn1 yc1],.agg #[.bool lf2,.int .i64 pg2,.slice ka2 kn2 kc2,.slice va2 vn2 vc2,.slice oa2 on2 oc2,.slice ya2 yn2 yc2]]) (.t (.s .z)) (by kernel_rfl) (by rfl) ?_ ‹_› ?_
    ·intro wq hSw;go_simp
    refine tY 12 (.agg #[.bool lf1,.int .i64 pg1,.slice ka1 kn1 kc1,.slice va1 vn1 vc1,.slice oa1 on1 oc1,.slice ya1 yn1 yc1]) (.t (.s (.s .z))) (by kernel_rfl) (by rfl) ?_ ‹_› ?_
    ·intro wq hSw;go_simp
    refine tY 13 (.agg #[.bool lf2,.int .i64 pg2,.slice ka2 kn2 kc2,.slice va2 vn2 vc2,.slice oa2 on2 oc2,.slice ya2 yn2 yc2]) (.t (.s (.s (.s .z)))) (by kernel_rfl) (by rfl) ?_ ‹_› ?_
    ·intro wq hSw;go_simp
    try simp only[Act.put,q1,q2,q3]
    refine wpAnyH_ready (rs:=[16]) (by kernel_rfl) (by simp) ?_
    refine rdA (.t (.f (.s .z))) (fun K hK=>?_) AllReadyH.nil
    have hne:α≠β:=by first | exact hαβ | exact hαβ.symm
    obtain⟨g1,g2,g3⟩:=partBox HQV.out hVc HA.out HR.out h10 hbc_ kα kβ hVα hVβ hne nα nβ
    have HFIN:Hid (PartBox V _ Q (x.fore s) (x.rest s) α β):=g3
    have fα:=thawT kα
    obtain⟨y0,y1,y2,y3,y4,y5⟩:=box6g kα
    have lα9:=(Array.getElem?_eq_some_iff.1 kα).1
    go_simp
    clear y0 y1 y2 y3 y4 y5
    rw[put6T_eq]
    generalize hY:put6T w10 α (.bool lf1) (.int .i64 pg1) (.slice ka1 kn1 kc1) (.slice va1 vn1 vc1) (.slice oa1 on1 oc1) (.slice ya1 yn1 yc1)=Y at g1 g2 HFIN ⊢
    clear hY
    refine hK.out _ _ (g2) (fun hHeld=>?_)
    clear hK K
    try simp only[Act.put,q1,q2,q3]
    refine wpAnyH_ready (rs:=[17]) (by kernel_rfl) (by simp) ?_
    refine rdA (.t (.f (.s (.s .z)))) (fun K hK=>?_) AllReadyH.nil
    have fβ:=thawT g1
    obtain⟨y0,y1,y2,y3,y4,y5⟩:=box6g g1
    have lβ9:=(Array.getElem?_eq_some_iff.1 g1).1
    go_simp
    clear y0 y1 y2 y3 y4 y5
    rw[put6T_eq]
    generalize put6T Y β (.bool lf2) (.int .i64 pg2) (.slice ka2 kn2 kc2) (.slice va2 vn2 vc2) (.slice oa2 on2 oc2) (.slice ya2 yn2 yc2)=Z at HFIN ⊢
    refine hK.out _ _ (by obtain⟨_,_,_,_,_,_,_,_,_,_,_,_,_,_,_,_,_,_,_,_,_,_,_,_,_,_,_,_,_,_,_,_,_,_,h9⟩:=HFIN.out;exact h9) (fun hHeld=>?_)
    clear hK K
    try simp only[Act.put,q1,q2,q3]
    refine wpAnyH_done (by kernel_rfl) ?_ _
    refine NoPanic.normal ?_
    clear hHeld g1 g2 kα kβ hbc_ h10 nα nβ
    go_wp2_with fail
    go_meet
    exact⟨α,β,rfl,rfl,HFIN⟩
 case rest =>
  obtain⟨α,β,rfl,rfl,HC⟩:=hcut
  obtain⟨lf1,pg1,ka1,kn1,kc1,va1,vn1,vc1,oa1,on1,oc1,ya1,yn1,yc1,lf2,pg2,ka2,kn2,kc2,va2,vn2,vc2,oa2,on2,oc2,ya2,yn2,yc2,hα,kα,hβ,kβ,hA,hR,bC⟩:=HC.out
  have sC:=bC.size
  have bbs:=HOLV.out.lt.1
  have offC:¬ (Q b∨V.heap.size<=b):=fun e=>e.elim HOLV.out.off (fun e=>by omega)
  have OC:OL wc base (fun g=>Q g∨V.heap.size<=g) ys b c css:=HOLV.out.below bC (fun g h=>.inl h) offC
  obtain⟨⟨css5,O5⟩,f5⟩:=OC.set (i:=j) (by rw[HNN.out];omega) hA
  obtain⟨a0,a1,a2,a3,a4,a5⟩:=box6g kα
  have lα:=(Array.getElem?_eq_some_iff.1 kα).1
  have lbC:b<wc.heap.size:=by omega
  obtain⟨r0,r1,r2,r3,r4,r5⟩:=C6V.out.keep (bC.block b lb)
  have fz:=OC.thaw
  clear HC HSZ HPT
  go_upto_region 6 with fail
  rw[put6at_eq]
  clear a0 a1 a2 a3 a4 a5 r0 r1 r2 r3 r4 r5 fz
  have s5:=f5.size
  have kβ5:=(f5.block β (Array.getElem?_eq_some_iff.1 kβ).1 (fun e=>by omega)).trans kβ
  have hR5:SN _ (fun g=>Q g∨V.heap.size<=g) (x.rest s) (.agg #[.bool lf2,.int .i64 pg2,.slice ka2 kn2 kc2,.slice va2 vn2 vc2,.slice oa2 on2 oc2,.slice ya2 yn2 yc2]):=hR.keep (fun g hg hl=>f5.block g hl (fun e=>offC (e ▸ hg))) (fun _ h=>h) s5
  have B5:Below base w wc:=(HBV.out.mono hbs).trans (bC.mono hbsV)
  have B5':=B5.trans (f5.below (by omega) (fun g e=>by omega))
  generalize put6at wc b (j*6) (.bool lf1) (.int .i64 pg1) (.slice ka1 kn1 kc1) (.slice va1 vn1 vc1) (.slice oa1 on1 oc1) (.slice ya1 yn1 yc1)=X5 at O5 f5 s5 kβ5 hR5 B5' ⊢
  have hd5:(ys.set j (x.fore s))[j+1]?=some d:=by rw[List.getElem?_set_ne (by omega)];exact HX.out.2.1
  obtain⟨lfd,pgd,kad,knd,kcd,vad,vnd,vcd,oad,ond,ocd,yad,ynd,ycd,hSd,c6d⟩:=O5.at hd5
  have C6D:Hid (Six X5.drew b ((j+1)*6) lfd pgd kad knd kcd vad vnd vcd oad ond ocd yad ynd ycd):=c6d.keep rfl
  have lβ5:β<X5.heap.size:=(Array.getElem?_eq_some_iff.1 kβ5).1
  have lbX:b<X5.heap.size:=by omega
  have hX:=HX.out
  have bD:Below X5.heap.size X5 X5.drew:=(Below.refl _ _).drew
  have hgl:=l3Glue_any (hR5.below bD) (hSd.below bD) (lens_le (hX.2.2.1.rest s) (by have:=(size_rest (x:=x) s).1;omega)) (lens_le hX.2.2.2.1 (by omega))
  have HGL:Hid (Calls Tryz.prog 32 #[.agg #[.bool lf2,.int .i64 pg2,.slice ka2 kn2 kc2,.slice va2 vn2 vc2,.slice oa2 on2 oc2,.slice ya2 yn2 yc2],.agg #[.bool lfd,.int .i64 pgd,.slice kad knd kcd,.slice vad vnd vcd,.slice oad ond ocd,.slice yad ynd ycd]] X5.drew fun e w7=>∃ lf3 pg3 ka3 kn3 kc3 va3 vn3 vc3 oa3 on3 oc3 ya3 yn3 yc3,e=.returned (.agg #[.bool lf3,.int .i64 pg3,.slice ka3 kn3 kc3,.slice va3 vn3 vc3,.slice oa3 on3 oc3,.slice ya3 yn3 yc3])∧Below X5.heap.size X5 w7∧b<w7.heap.size∧(Six w7 b ((j+1)*6) lfd pgd kad knd kcd vad vnd vcd oad ond ocd yad ynd ycd∧∀ k,w7.frozen? ⟨b,k,none⟩=false)∧Hid (SL (put6at w7 b ((j+1)*6) (.bool lf3) (.int .i64 pg3) (.slice ka3 kn3 kc3) (.slice va3 vn3 vc3) (.slice oa3 on3 oc3) (.slice ya3 yn3 yc3)) (fun g=>Q g∨base<=g) ((ys.set j (x.fore s)).set (j+1) (glueT (x.rest s) d)) (.slice (some ⟨b,0,none⟩) n c)∧Below base w (put6at w7 b ((j+1)*6) (.bool lf3) (.int .i64 pg3) (.slice ka3 kn3 kc3) (.slice va3 vn3 vc3) (.slice oa3 on3 oc3) (.slice ya3 yn3 yc3))∧(put6at w7 b ((j+1)*6) (.bool lf3) (.int .i64 pg3) (.slice ka3 kn3 kc3) (.slice va3 vn3 vc3) (.slice oa3 on3 oc3) (.slice ya3 yn3 yc3)).heap[β]?=X5.heap[β]?∧β<(put6at w7 b ((j+1)*6) (.bool lf3) (.int .i64 pg3) (.slice ka3 kn3 kc3) (.slice va3 vn3 vc3) (.slice oa3 on3 oc3) (.slice ya3 yn3 yc3)).heap.size)):=by
   refine hgl.mono ?_
   rintro e w7 ⟨v7,rfl,hS7,hb7'⟩
   have hb7:Below X5.heap.size X5 w7:=bD.trans hb7'
   obtain⟨lf3,pg3,ka3,kn3,kc3,va3,vn3,vc3,oa3,on3,oc3,ya3,yn3,yc3,rfl⟩:=hS7.letters
   have s7:=hb7.size
   have O7:OL w7 base (fun g=>Q g∨V.heap.size<=g) (ys.set j (x.fore s)) b c css5:=O5.below hb7 (fun _ h=>h) offC
   have hS7':SN w7 (fun g=>Q g∨V.heap.size<=g) (glueT (x.rest s) d) (.agg #[.bool lf3,.int .i64 pg3,.slice ka3 kn3 kc3,.slice va3 vn3 vc3,.slice oa3 on3 oc3,.slice ya3 yn3 yc3]):=hS7.mono (fun g hg=>hg.elim id (fun h=>.inr (by have h':X5.heap.size<=g:=h;omega)))
   obtain⟨⟨css8,O8⟩,f8⟩:=O7.set (i:=j+1) (by rw[List.length_set,HNN.out];omega) hS7'
   have s8:=f8.size
   have hsl:=O8.sl (Q':=fun g=>Q g∨base<=g) (fun g hg=>hg.imp id (fun h=>by omega)) (fun g hg=>.inr hg)
   rw[List.length_set,List.length_set,HNN.out] at hsl
   exact⟨lf3,pg3,ka3,kn3,kc3,va3,vn3,vc3,oa3,on3,oc3,ya3,yn3,yc3,rfl,hb7,by omega,⟨c6d.keep (hb7.block b lbX),O7.thaw⟩,hsl,(B5'.trans (hb7.mono (by have:=B5'.size;omega))).trans (f8.below (by omega) (fun g e=>by omega)),(f8.block β (by omega) (fun e=>by omega)).trans (hb7.block β lβ5),by omega⟩
  clear hgl hSd c6d O5 f5 hR hR5 hA OC kα hX bD B5 B5' kβ
  refine wp_region_noPanic ?_
  refine wp_region_held_drew (S:=(fun w':World=>w'.heap[β]?=X5.heap[β]?∧β<w'.heap.size)) (by kernel_rfl) (⟨rfl,lβ5⟩) (fun hHeld=>?_)
  refine tY 0 (.slice (some ⟨b,0,none⟩) n c) .z (by kernel_rfl) (by rfl) ?_ ‹_› ?_
  ·intro wq hSw;go_simp
  refine tY 1 (.int .i64 ((j:Int)+1)) (.s .z) (by kernel_rfl) (by rfl) ?_ ‹_› ?_
  ·intro wq hSw;go_simp
  refine tY 2 (.agg #[.bool lf2,.int .i64 pg2,.slice ka2 kn2 kc2,.slice va2 vn2 vc2,.slice oa2 on2 oc2,.slice ya2 yn2 yc2]) (.s (.s .z)) (by kernel_rfl) (by rfl) ?_ ‹_› ?_
  ·intro wq hSw;(try dsimp only at hSw);obtain⟨y0,y1,y2,y3,y4,y5⟩:=(box_six kβ5).keep hSw.1;have lq:=hSw.2;(try simp only[Nat.zero_add] at y0 y1 y2 y3 y4 y5);go_simp
  refine tY 3 (.slice (some ⟨b,0,none⟩) n c) (.s (.s (.s .z))) (by kernel_rfl) (by rfl) ?_ ‹_› ?_
  ·intro wq hSw;go_simp
  try simp only[Act.put,q1,q2,q3]
  refine tY 4 (.int .i64 ((j:Int)+1)) (.s (.s (.s (.s .z)))) (by kernel_rfl) (by rfl) ?_ ‹_› ?_
  ·intro wq hSw;go_simp
  refine tY 5 (.pointer (some ⟨b,(j+1)*6,none⟩)) (.f .z) (by kernel_rfl) (by rfl) ?_ ‹_› ?_
  ·intro wq hSw;go_simp;intro hh;omega
  try simp only[Act.put,q1,q2,q3]
  refine wpAnyH_ready (rs:=[6]) (by kernel_rfl) (by simp) ?_
  refine rdA (.f (.s .z)) (fun K hK=>?_) AllReadyH.nil
  obtain⟨y0,y1,y2,y3,y4,y5⟩:=C6D.out
  have lb5:b<X5.drew.heap.size:=lbX
  go_simp
  clear y0 y1 y2 y3 y4 y5 lb5
  refine hK.out _ _ (⟨rfl,lβ5⟩) (fun hHeld=>?_)
  clear hK K
  try simp only[Act.put,q1,q2,q3]
  refine wpAnyH_ready (rs:=[7]) (by kernel_rfl) (by simp) ?_
  refine rdA (.f (.s (.s .z))) (fun K hK=>?_) AllReadyH.nil
  go_simp
  refine HGL.out.mono ?_
  rintro e w7 ⟨lf3,pg3,ka3,kn3,kc3,va3,vn3,vc3,oa3,on3,oc3,ya3,yn3,yc3,rfl,hb7,lb7,ft7,hfin⟩
  go_wp2_with fail
  have s7:=hb7.size
  refine hK.out _ _ (⟨hb7.block β lβ5,by omega⟩) (fun hHeld=>?_)
  clear hK K
  refine tY 8 (.pointer (some ⟨b,(j+1)*6,none⟩)) (.f (.s (.s (.s .z)))) (by kernel_rfl) (by rfl) ?_ ‹_› ?_
  ·intro wq hSw;go_simp;intro hh;omega
  try simp only[Act.put,q1,q2,q3]
  refine wpAnyH_ready (rs:=[9]) (by kernel_rfl) (by simp) ?_
  refine rdA (.f (.s (.s (.s (.s .z))))) (fun K hK=>?_) AllReadyH.nil
  obtain⟨g1,g2,g3,g4⟩:=hfin.out
  have HFIN:Hid (SL (put6at w7 b ((j+1)*6) (.bool lf3) (.int .i64 pg3) (.slice ka3 kn3 kc3) (.slice va3 vn3 vc3) (.slice oa3 on3 oc3) (.slice ya3 yn3 yc3)) (fun g=>Q g∨base<=g) ((ys.set j (x.fore s)).set (j+1) (glueT (x.rest s) d)) (.slice (some ⟨b,0,none⟩) n c)∧Below base w (put6at w7 b ((j+1)*6) (.bool lf3) (.int .i64 pg3) (.slice ka3 kn3 kc3) (.slice va3 vn3 vc3) (.slice oa3 on3 oc3) (.slice ya3 yn3 yc3))):=⟨g1,g2⟩
  obtain⟨⟨y0,y1,y2,y3,y4,y5⟩,ff⟩:=ft7
  go_simp
  clear y0 y1 y2 y3 y4 y5 ff
  rw[put6at_eq]
  generalize put6at w7 b ((j+1)*6) (.bool lf3) (.int .i64 pg3) (.slice ka3 kn3 kc3) (.slice va3 vn3 vc3) (.slice oa3 on3 oc3) (.slice ya3 yn3 yc3)=w8 at HFIN g3 g4 ⊢
  refine hK.out _ _ (⟨g3,g4⟩) (fun hHeld=>?_)
  clear hK K
  try simp only[Act.put,q1,q2,q3]
  refine wpAnyH_done (by kernel_rfl) ?_ _
  refine NoPanic.normal ?_
  clear hHeld g1 g2 g3 g4
  go_wp2_with fail
  go_ret
  exact⟨_,rfl,HFIN.out.1,HFIN.out.2⟩
end Go.Proofs.YtbfggcekifaldaaGreat
