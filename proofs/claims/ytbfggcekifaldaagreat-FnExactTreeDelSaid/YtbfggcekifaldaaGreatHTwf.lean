import Derived.Test.YtbfggcekifaldaaGreatHTwq
import Derived.Test.YtbfggcekifaldaaGreatHTdp
import Derived.Test.YtbfggcekifaldaaGreatHTxj
namespace Go.Proofs.YtbfggcekifaldaaGreat
set_option maxHeartbeats 4000000
open Go.RowKit
set_option linter.unusedVariables false
set_option linter.unusedSimpArgs false
set_option maxRecDepth 100000
def TowTo (t:T) (key:ByteArray) (j m:Nat):Prop:=m<j∧(m=0∨∃ k,t.kids[m]?=some k∧leB k.low key=true)∧∀ i k,m<i->i<j->t.kids[i]?=some k->¬ leB k.low key=true
theorem l3Child_any (C:Nat) (t:T) (key:ByteArray) (hg:∃ r,t.good r=true) (hl:t.leaf=false):CallAt 33 C t [.string key] (fun w e w'=>e=.returned (.int .i64 (towN key t.kids))∧towN key t.kids<t.kids.length∧Below w.heap.size w w'):=by
 intro w ka kn kc va vn vc oa on oc ya yc css hC hX
 obtain⟨r,hg⟩:=hg
 obtain⟨h2,h4⟩:=good_two hg hl
 have HG:Hid (∀ k ∈ t.kids,k.good false=true):=fun k hk=>good_kid hg hk
 obtain⟨W,hW⟩:∃ W,W=w.alloc (.cells #[.bool t.leaf,.int .i64 t.page,.slice ka kn kc,.slice va vn vc,.slice oa on oc,.slice ya t.kids.length yc] 47):=⟨_,rfl⟩
 have hb0:BoxN w W w.heap.size #[.bool t.leaf,.int .i64 t.page,.slice ka kn kc,.slice va vn vc,.slice oa on oc,.slice ya t.kids.length yc]:=by rw[hW];exact BoxN.new w _
 have hX0:=hX.belowC (hb0.bel.mono hC)
 obtain⟨N,hN⟩:∃ N,w.heap.size=N:=⟨_,rfl⟩
 obtain⟨n,hn⟩:∃ n,n=t.kids.length:=⟨_,rfl⟩
 have HN:Hid (t.kids.length=n):=hn.symm
 have hyc:=hX0.cap
 obtain⟨hyc1,hyc2⟩:=hyc
 unfold maxLen at hyc2
 obtain⟨pg,hpg⟩:∃ pg,t.page=pg:=⟨_,rfl⟩
 rw[<-hn] at hb0 h2 h4 hyc1 hW ⊢
 rw[hl,hpg] at hb0 hW ⊢
 clear hX hn hl hg hpg
 show Calls Tryz.prog 33 #[.agg #[.bool false,.int .i64 pg,.slice ka kn kc,.slice va vn vc,.slice oa on oc,.slice ya n yc],.string key] w _
 go_enter Tryz.func33,Tryz.ntmps33
 go_upto_region 1 with fail
 rw[<-hW]
 clear hW
 have lW:=hb0.lt
 have k0:=hb0.box
 have bW:=hb0.bel
 rw[hN] at lW k0 bW
 clear hb0
 have hCN:C<=N:=by omega
 go_wp2_with fail
 go_loopw [5,6] (fun a i wr=>∃ m j:Nat,1<=j∧j<=n∧a=.int .i64 m∧i=.int .i64 j∧Hid (TowTo t key j m)∧Below W.heap.size W wr) (fun _ i _=>n - (intOf i).toNat)
 case atStart=>exact⟨0,1,by omega,by omega,rfl,rfl,⟨by omega,.inl rfl,fun i k h1 h2=>by omega⟩,Below.refl _ _⟩
 case round =>
  obtain⟨m,j,hj1,hjn,rfl,rfl,HI,hbr⟩:=hrel
  have kr:=(hbr.block N lW).trans k0
  have hXr:=hX0.belowC (hbr.mono (show C<=W.heap.size by omega))
  have sr:=hbr.size
  obtain⟨p0,p1,p2,p3,p4,p5⟩:=box6g kr
  have lr:N<wr.heap.size:=by omega
  by_cases hlt:j<n
  ·obtain⟨b,off,rfl,hbl,k,hki,hkm,ka',kn',kc',va',vn',vc',oa',on',oc',ya',yc',css',hXk,c0,c1,c2,c3,c4,c5⟩:=hXr.at (i:=j) (by rw[HN.out];exact hlt)
   have hLow:=l3Low_any C k ⟨false,HG.out k hkm⟩ wr ka' kn' kc' va' vn' vc' oa' on' oc' ya' yc' css' (by omega) hXk
   have HKI:Hid (t.kids[j]?=some k):=hki
   obtain⟨s,hs⟩:∃ s,k.low=s:=⟨_,rfl⟩
   have HS:Hid (k.low=s):=hs
   rw[hs] at hLow
   clear hXk hXr hki hkm hs hX0 k0 kr
   go_wp2_with fail
   refine hLow.mono ?_
   rintro e w3 ⟨rfl,hb3⟩
   have hbr3:Hid (Below W.heap.size W w3):=hbr.trans (hb3.mono (by omega))
   clear hLow c0 c1 c2 c3 c4 c5 p0 p1 p2 p3 p4 p5 hb3 hbr
   cases hle:leB s key
   ·have HI2:Hid (TowTo t key (j+1) m):=⟨by have:=HI.out.1;omega,HI.out.2.1,fun i k' h1 h2 h3=>by
     by_cases hij:i=j
     ·subst hij
      rw[HKI.out] at h3
      simp only[Option.some.injEq] at h3
      subst h3
      rw[HS.out,hle]
      simp
     ·exact HI.out.2.2 i k' h1 (by omega) h3⟩
    unfold leB at hle
    clear HI
    go_wp2_with fail
    go_roundw
    case rel=>exact⟨m,j+1,by omega,by omega,rfl,by go_num,HI2,hbr3.out⟩
    case measure=>simp[intOf];omega
   ·have HI2:Hid (TowTo t key (j+1) j):=⟨by omega,.inr ⟨k,HKI.out,by rw[HS.out];exact hle⟩,fun i k' h1 h2=>by omega⟩
    unfold leB at hle
    clear HI
    go_wp2_with fail
    go_roundw
    case rel=>exact⟨j,j+1,by omega,by omega,rfl,by go_num,HI2,hbr3.out⟩
    case measure=>simp[intOf];omega
  ·have HT:Hid (towN key t.kids=m∧m<n):=⟨tow_is (t:=t) ⟨by have:=HI.out.1;have:=HN.out;omega,HI.out.2.1,fun i k h1 h2=>HI.out.2.2 i k h1 (by have:=(List.getElem?_eq_some_iff.1 h2).1;have:=HN.out;omega) h2⟩,by have:=HI.out.1;omega⟩
   have HB:Hid (Below w.heap.size w wr):=by rw[hN];exact bW.trans (hbr.mono (by omega))
   clear hXr HI hbr hX0 k0 kr
   go_wp2_with fail
   go_ret
   exact⟨by rw[HT.out.1];rfl,by rw[HT.out.1];exact HT.out.2,HB.out⟩
def wayT (d:T):T:=if d.leaf=false∧d.kids.length=1 then d.kids.headD leafT else d
def rootD (key:ByteArray) (t:T):T:=wayT (delT key t)
theorem good_up {t:T} (h:t.good false=true):t.good true=true:=by
 rw[T.good_eq] at h ⊢
 simp only[Bool.and_eq_true,decide_eq_true_eq] at h ⊢
 refine⟨⟨⟨⟨⟨?_,h.1.1.1.1.2⟩,h.1.1.1.2⟩,h.1.1.2⟩,h.1.2⟩,h.2⟩
 have:=h.1.1.1.1.1
 simp at this
 split<;>omega
theorem rootD_ok {key:ByteArray} {t:T} (hg:t.good true=true) (hn:Neat t) (hh:0<=t.ht) (hs:SortT t.slots) (hk:t.slots.all (fun s=>kyB s.1)=true) (hex:∃ s ∈ t.slots,s.1=key):(rootD key t).good true=true∧Neat (rootD key t)∧0<=(rootD key t).ht∧(rootD key t).slots=remZ key t.slots∧(rootD key t).slots.all (fun s=>kyB s.1)=true∧SortT (rootD key t).slots:=by
 have hd:=del_is key t true hg hn hh hs hex
 have hp:=good_parts hg
 have main:(rootD key t).good true=true∧Neat (rootD key t)∧0<=(rootD key t).ht∧(rootD key t).slots=remZ key t.slots:=by
  unfold rootD wayT
  cases hl:t.leaf
  ·have h24:=good_two hg hl
   have hsz:t.size=t.kids.length:=by simp[T.size,hl]
   have h0:0<t.kids.length:=by omega
   obtain⟨k,hk',hkm⟩:=tow_kid (key:=key) (ys:=t.kids) h0
   have hdi:(delT key t).leaf=false:=by rw[delT_inner hl hk']
   have hds:(delT key t).size=(delT key t).kids.length:=by simp[T.size,hdi]
   have hpos:0<(delT key t).size:=by have:=hd.soft.size;omega
   have hN:=hd.neat hpos
   have hH:=hd.ht hpos
   have hN':=(neat_eq (delT key t)).1 hN
   have hkk:=ht_kids hdi (hN'.2.1 hdi).2.2.2 (by omega)
   split
   ·rename_i h1
    obtain⟨z,hz⟩:∃ z,(delT key t).kids=[z]:=List.length_eq_one_iff.1 h1.2
    rw[hz]
    have hzm:z ∈ (delT key t).kids:=by rw[hz];exact List.mem_cons_self ..
    refine⟨good_up (hd.soft.kids z hzm).1,hN'.2.2 z hzm,(hkk z hzm).2,?_⟩
    rw[<-hd.slots,T.slots_eq (delT key t),hdi,hz]
    simp
   ·rename_i h1
    have h2:2<=(delT key t).size:=by
     have:¬ (delT key t).kids.length=1:=fun e=>h1 ⟨hdi,e⟩
     omega
    exact⟨hd.soft.good true (by rw[hdi];simpa using h2) hd.soft.size.2,hN,by omega,hd.slots⟩
  ·have hdl:=delT_leaf (key:=key) hl
   have hdi:(delT key t).leaf=true:=by rw[hdl];rfl
   rw[if_neg (by rw[hdi];simp)]
   refine⟨hd.soft.good true (by rw[hdi];simp) hd.soft.size.2,?_,?_,hd.slots⟩
   ·rw[hdl,neat_eq]
    exact⟨fun _=>rfl,fun e=>by simp[leafZ] at e,fun z hz=>by simp[leafZ] at hz⟩
   ·rw[T.ht_eq,hdi]
    simp
 refine⟨main.1,main.2.1,main.2.2.1,main.2.2.2,?_,?_⟩
 ·rw[main.2.2.2,List.all_eq_true]
  exact fun s hm=>List.all_eq_true.1 hk s (remZ_mem hm)
 ·rw[main.2.2.2]
  unfold remZ SortT
  rw[List.pairwise_append]
  refine⟨List.Pairwise.sublist (List.take_sublist _ _) hs,List.Pairwise.sublist (List.drop_sublist _ _) hs,fun a ha b hb=>?_⟩
  have h1:=posT_lt t.slots a ha
  have hps:=posT_there t.slots hs hex
  have ht:thereT key t.slots=true:=by unfold thereT;exact decide_eq_true hps
  have h2:=posT_ge (key:=key) t.slots hs b (by rw[if_pos ht];exact hb)
  exact less_trans h1 h2
theorem ta_li (v:Value) (W:World):(Instr.typeAssert (.iface 119 v) 54 94 true).run Tryz.prog W=.ok (.tuple #[.pointer none,.bool false]) W:=by kernel_rfl
theorem giveWay_any {w:World} {P:Nat->Prop} {t:T} {u:Value} (h:GM w P t u) (hn:t.leaf=false->t.kids.length<=1000):Calls Tryz.prog 23 #[u] w fun e w'=>∃ u',e=.returned u'∧w'=w∧∃ P':Nat->Prop,GM w P' (wayT t) u'∧∀ b,P' b->P b:=by
 cases hl:t.leaf
 ·obtain⟨L,a,n,c,ul,Q,rfl,hI⟩:=h.inner hl
  have HI:Hid (GMI w P t L a n c ul Q):=hI
  have HL:Hid (t.leaf=false):=hl
  have hbx:=hI.box
  have hlen:=hI.len
  have hn1:n<=1000:=by rw[hlen];exact hn hl
  obtain⟨pg,hpg⟩:∃ pg,t.page=pg:=⟨_,rfl⟩
  rw[hpg] at hbx
  obtain⟨c0,c1⟩:=box_twoG hbx
  have lL:=(Array.getElem?_eq_some_iff.1 hbx).1
  have ta2:=ta_ii
  have HN:Hid (n=t.kids.length):=hlen
  by_cases h1:n=1
  ·subst h1
   obtain⟨z,hz⟩:∃ z,t.kids=[z]:=List.length_eq_one_iff.1 hlen.symm
   have hk:=hI.kid 0 z (by rw[hz];exact List.mem_cons_self ..) (by rw[hz];rfl)
   have hu:ul.length=1:=by have:=hI.row.1;omega
   obtain⟨x,hx⟩:∃ x,ul=[x]:=List.length_eq_one_iff.1 hu
   have hrow:=hI.row
   rw[hx] at hrow hk
   have HK:Hid (GM w (Q 0) z x):=hk
   have HW:Hid (wayT t=z):=by show _=_;unfold wayT;rw[if_pos ⟨HL.out,by rw[hz];rfl⟩,hz];rfl
   rcases hrow.2 with ⟨_,e⟩ | ⟨b,cap,cur,e,_,hg,hnc,hcm,hcs,htk⟩
   ·omega
   simp only[Value.slice.injEq] at e
   obtain⟨rfl,_,rfl⟩:=e
   have hc:=hrow.cellAt 0 (by omega)
   simp only[List.getElem?_cons_zero] at hc
   clear hI hlen hrow hk hz hx hu hg hcs htk hbx h hn hl hpg HN
   go_enter Tryz.func23,Tryz.ntmps23
   go_wp2_with fail
   go_ret
   exact⟨_,rfl,rfl,Q 0,by rw[HW.out];exact HK.out,fun b hb=>(HI.out.sub 0 b hb).1⟩
  ·have HW:Hid (wayT t=t):=by show _=_;unfold wayT;rw[if_neg (fun e=>h1 (by rw[HN.out];exact e.2))]
   clear hI hlen hbx h hn hl hpg HN
   go_enter Tryz.func23,Tryz.ntmps23
   go_wp2_with fail
   go_ret
   exact⟨_,rfl,rfl,P,by rw[HW.out];exact HI.out.is HL.out,fun b hb=>hb⟩
 ·obtain⟨L,a,n,c,rfl,hI⟩:=h.leaf hl
  have HI:Hid (GML w P t L a n c):=hI
  have HL:Hid (t.leaf=true):=hl
  have ta2:=ta_li
  have HW:Hid (wayT t=t):=by show _=_;unfold wayT;rw[if_neg (by rw[hl];simp)]
  clear hI h hn hl
  go_enter Tryz.func23,Tryz.ntmps23
  go_wp2_with fail
  go_ret
  exact⟨_,rfl,rfl,P,by rw[HW.out];exact HI.out.is HL.out,fun b hb=>hb⟩
end Go.Proofs.YtbfggcekifaldaaGreat
