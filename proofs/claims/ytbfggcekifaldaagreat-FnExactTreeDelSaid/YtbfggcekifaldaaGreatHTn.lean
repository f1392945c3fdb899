import Derived.Test.YtbfggcekifaldaaGreatGAB
namespace Go.Proofs.YtbfggcekifaldaaGreat
set_option maxHeartbeats 1000000
open Go.RowKit
set_option linter.unusedVariables false
set_option linter.unusedSimpArgs false
set_option maxRecDepth 100000
def NodeIs (w:World) (A B:Nat) (P:Nat->Prop):T->List Value->Prop
 | ⟨l,p,k,v,o,y⟩,cs=>∃ (ka:Option Addr) (kn kc:Nat) (va:Option Addr) (vn vc:Nat) (oa:Option Addr) (on oc:Nat) (ya:Option Addr) (yc:Nat) (css:Nat->List Value),cs=[.bool l,.int .i64 p,.slice ka kn kc,.slice va vn vc,.slice oa on oc,.slice ya y.length yc]∧I64 p∧StrsAt w A B ka kn kc k∧StrsAt w A B va vn vc v∧IntsAt w A B oa on oc o∧(y.length<=yc∧yc<=maxLen) ∧
  (0<y.length->∃ b off,ya=some ⟨b,off,none⟩∧P b∧∀ i,i<y.length->∀ j,j<6->w.cell? ⟨b,off+i*6+j,none⟩=(css i)[j]?)∧∀ i,∀ t ∈ y,y[i]?=some t->NodeIs w A B P t (css i)
structure NodeX (w:World) (A B:Nat) (P:Nat->Prop) (t:T) (ka:Option Addr) (kn kc:Nat) (va:Option Addr) (vn vc:Nat) (oa:Option Addr) (on oc:Nat) (ya:Option Addr) (yc:Nat) (css:Nat->List Value):Prop where
 page:I64 t.page
 keys:StrsAt w A B ka kn kc t.keys
 vals:StrsAt w A B va vn vc t.vals
 over:IntsAt w A B oa on oc t.over
 cap:t.kids.length<=yc∧yc<=maxLen
 cell:0<t.kids.length->∃ b off,ya=some ⟨b,off,none⟩∧P b∧∀ i,i<t.kids.length->∀ j,j<6->w.cell? ⟨b,off+i*6+j,none⟩=(css i)[j]?
 kid:∀ i,∀ k ∈ t.kids,t.kids[i]?=some k->NodeIs w A B P k (css i)
theorem NodeIs.out {w:World} {A B:Nat} {P:Nat->Prop} {t:T} {cs:List Value} (h:NodeIs w A B P t cs):∃ ka kn kc va vn vc oa on oc ya yc css,cs=[.bool t.leaf,.int .i64 t.page,.slice ka kn kc,.slice va vn vc,.slice oa on oc,.slice ya t.kids.length yc]∧NodeX w A B P t ka kn kc va vn vc oa on oc ya yc css:=by
 obtain ⟨l,p,k,v,o,y⟩:=t
 rw [NodeIs.eq_def] at h
 obtain ⟨ka,kn,kc,va,vn,vc,oa,on,oc,ya,yc,css,e,h1,h2,h3,h4,h5,h6,h7⟩:=h
 exact ⟨ka,kn,kc,va,vn,vc,oa,on,oc,ya,yc,css,e,h1,h2,h3,h4,h5,h6,h7⟩
theorem NodeX.mk' {w:World} {A B:Nat} {P:Nat->Prop} {t:T} {ka:Option Addr} {kn kc:Nat} {va:Option Addr} {vn vc:Nat} {oa:Option Addr} {on oc:Nat} {ya:Option Addr} {yc:Nat} {css:Nat->List Value} (h:NodeX w A B P t ka kn kc va vn vc oa on oc ya yc css):NodeIs w A B P t [.bool t.leaf,.int .i64 t.page,.slice ka kn kc,.slice va vn vc,.slice oa on oc,.slice ya t.kids.length yc]:=by
 obtain ⟨l,p,k,v,o,y⟩:=t
 rw [NodeIs.eq_def]
 exact ⟨ka,kn,kc,va,vn,vc,oa,on,oc,ya,yc,css,rfl,h.page,h.keys,h.vals,h.over,h.cap,h.cell,h.kid⟩
theorem NodeIs.keep {w w':World} {A B A' B':Nat} {P Q:Nat->Prop} (hk:Keeps A B w w') (hp:∀ b,P b->w'.heap[b]?=w.heap[b]?) (hQ:∀ b,P b->Q b) (hA:A'<=A) (hB:B<=B'):∀ t cs,NodeIs w A B P t cs->NodeIs w' A' B' Q t cs:=by
 intro t
 induction t using T.ind with
 | h t ih =>
  intro cs h
  obtain ⟨ka,kn,kc,va,vn,vc,oa,on,oc,ya,yc,css,rfl,h1,h2,h3,h4,h5,h6,h7⟩:=h.out
  refine NodeX.mk' (css:=css) ⟨h1,(h2.keep hk).up hA hB,(h3.keep hk).up hA hB,(h4.keep hk).up hA hB,h5,fun hn=>?_,fun i k hm hi=>ih k hm _ (h7 i k hm hi)⟩
  obtain ⟨b,off,e,hb,hc⟩:=h6 hn
  exact ⟨b,off,e,hQ b hb,fun i hi j hj=>(World.cell?_of_block (w:=w) (a:=⟨b,off+i*6+j,none⟩) (hp b hb)).trans (hc i hi j hj)⟩
abbrev NodeC (w:World) (C:Nat) (t:T) (cs:List Value):Prop:=NodeIs w 0 C (fun b=>b<C) t cs
theorem NodeC.below {w w':World} {C:Nat} {t:T} {cs:List Value} (h:NodeC w C t cs) (hb:Below C w w'):NodeC w' C t cs :=
 NodeIs.keep (.of_below hb) (fun b hb'=>hb.block b hb') (fun _ h=>h) (Nat.le_refl _) (Nat.le_refl _) t cs h
theorem NodeX.at {w:World} {A B:Nat} {P:Nat->Prop} {t:T} {ka:Option Addr} {kn kc:Nat} {va:Option Addr} {vn vc:Nat} {oa:Option Addr} {on oc:Nat} {ya:Option Addr} {yc:Nat} {css:Nat->List Value} (h:NodeX w A B P t ka kn kc va vn vc oa on oc ya yc css) {i:Nat} (hi:i<t.kids.length) :
  ∃ b off,ya=some ⟨b,off,none⟩∧P b∧∃ k,t.kids[i]?=some k∧k ∈ t.kids∧∃ ka kn kc va vn vc oa on oc ya yc css,NodeX w A B P k ka kn kc va vn vc oa on oc ya yc css ∧
   w.cell? ⟨b,off+i*6,none⟩=some (.bool k.leaf)∧w.cell? ⟨b,off+i*6+1,none⟩=some (.int .i64 k.page)∧w.cell? ⟨b,off+i*6+2,none⟩=some (.slice ka kn kc)∧w.cell? ⟨b,off+i*6+3,none⟩=some (.slice va vn vc)∧w.cell? ⟨b,off+i*6+4,none⟩=some (.slice oa on oc)∧w.cell? ⟨b,off+i*6+5,none⟩=some (.slice ya k.kids.length yc):=by
 obtain ⟨b,off,e,hb,hc⟩:=h.cell (by omega)
 have hk:t.kids[i]?=some t.kids[i]:=List.getElem?_eq_getElem hi
 have hm:t.kids[i] ∈ t.kids:=List.getElem_mem hi
 obtain ⟨ka,kn,kc,va,vn,vc,oa,on,oc,ya,yc,css',e2,hx⟩:=(h.kid i _ hm hk).out
 have hc:=hc i hi
 rw [e2] at hc
 exact ⟨b,off,e,hb,_,hk,hm,ka,kn,kc,va,vn,vc,oa,on,oc,ya,yc,css',hx,by simpa using hc 0 (by omega),by simpa using hc 1 (by omega),by simpa using hc 2 (by omega),by simpa using hc 3 (by omega),by simpa using hc 4 (by omega),by simpa using hc 5 (by omega)⟩
theorem NodeX.belowC {w w':World} {C:Nat} {t:T} {ka:Option Addr} {kn kc:Nat} {va:Option Addr} {vn vc:Nat} {oa:Option Addr} {on oc:Nat} {ya:Option Addr} {yc:Nat} {css:Nat->List Value} (h:NodeX w 0 C (fun b=>b<C) t ka kn kc va vn vc oa on oc ya yc css) (hb:Below C w w'):NodeX w' 0 C (fun b=>b<C) t ka kn kc va vn vc oa on oc ya yc css :=
 ⟨h.page,h.keys.below hb,h.vals.below hb,h.over.below hb,h.cap,fun hn=>by
  obtain ⟨b,off,e,hb',hc⟩:=h.cell hn
  exact ⟨b,off,e,hb',fun i hi j hj=>(World.cell?_of_block (w:=w) (a:=⟨b,off+i*6+j,none⟩) (hb.block b hb')).trans (hc i hi j hj)⟩,fun i k hm hi=>(show NodeC w C k (css i) from h.kid i k hm hi).below hb⟩
def AtNode (f:Nat) (C:Nat) (t:T) (more:Array Value) (Q:World->Ending->World->Prop):Prop :=
 ∀ w ka kn kc va vn vc oa on oc ya yc css,C<=w.heap.size->NodeX w 0 C (fun b=>b<C) t ka kn kc va vn vc oa on oc ya yc css ->
  Calls Tryz.prog f (#[.agg #[.bool t.leaf,.int .i64 t.page,.slice ka kn kc,.slice va vn vc,.slice oa on oc,.slice ya t.kids.length yc]]++more) w (Q w)
theorem good_kid {t k:T} {r:Bool} (h:t.good r=true) (hk:k ∈ t.kids):k.good false=true:=by
 rw [T.good_eq] at h
 simp only [Bool.and_eq_true] at h
 exact List.all_eq_true.1 h.1.2 (k.good false) (List.mem_map.2 ⟨k,hk,rfl⟩)
theorem good_two {t:T} {r:Bool} (h:t.good r=true) (hl:t.leaf=false):2<=t.kids.length∧t.kids.length<=4:=by
 rw [T.good_eq] at h
 simp only [Bool.and_eq_true,decide_eq_true_eq] at h
 have:=h.1.1.1.1
 simpa [T.size,hl] using this
theorem l3Size_any (t:T) (ka:Option Addr) (kn kc:Nat) (va:Option Addr) (vn vc:Nat) (oa:Option Addr) (on oc:Nat) (ya:Option Addr) (yc:Nat) (w:World) (hk:t.keys.length=kn) :
  Calls Tryz.prog 34 #[.agg #[.bool t.leaf,.int .i64 t.page,.slice ka kn kc,.slice va vn vc,.slice oa on oc,.slice ya t.kids.length yc]] w fun e w'=>e=.returned (.int .i64 t.size)∧Below w.heap.size w w':=by
 have HK:Hid (t.keys.length=kn):=hk
 clear hk
 obtain ⟨n,hn⟩:∃ n,n=t.kids.length:=⟨_,rfl⟩
 have HN:Hid (n=t.kids.length):=hn
 rw [<-hn]
 clear hn
 generalize t.page=p
 by_cases hl:t.leaf=true
 ·have HS:Hid (t.size=kn):=by show _=_;unfold T.size;rw [if_pos hl];exact HK.out
  rw [hl]
  go_enter Tryz.func34,Tryz.ntmps34
  go_wp2
  go_ret
  exact ⟨by rw [HS.out];rfl,(Below.refl _ _).alloc (Nat.le_refl _) _⟩
 ·have hl2:t.leaf=false:=by simpa using hl
  have HS:Hid (t.size=n):=by show _=_;unfold T.size;rw [if_neg hl];exact HN.out.symm
  rw [hl2]
  clear hl hl2
  go_enter Tryz.func34,Tryz.ntmps34
  go_wp2
  go_ret
  exact ⟨by rw [HS.out];rfl,(Below.refl _ _).alloc (Nat.le_refl _) _⟩
theorem l3Low_any (C:Nat):∀ (t:T),(∃ r,t.good r=true)->∀ (w:World) (ka:Option Addr) (kn kc:Nat) (va:Option Addr) (vn vc:Nat) (oa:Option Addr) (on oc:Nat) (ya:Option Addr) (yc:Nat) (css:Nat->List Value),C<=w.heap.size->NodeX w 0 C (fun b=>b<C) t ka kn kc va vn vc oa on oc ya yc css ->
  Calls Tryz.prog 53 #[.agg #[.bool t.leaf,.int .i64 t.page,.slice ka kn kc,.slice va vn vc,.slice oa on oc,.slice ya t.kids.length yc]] w fun e w'=>e=.returned (.string t.low)∧Below w.heap.size w w':=by
 intro t
 induction t using T.ind with
 | h t ih =>
  rintro ⟨r,hg⟩ w ka kn kc va vn vc oa on oc ya yc css hC hX
  have hb0:Below w.heap.size w (w.alloc (.cells #[.bool t.leaf,.int .i64 t.page,.slice ka kn kc,.slice va vn vc,.slice oa on oc,.slice ya t.kids.length yc] 47)):=(Below.refl _ _).alloc (Nat.le_refl _) _
  have hX0:=hX.belowC (hb0.mono hC)
  by_cases hl:t.leaf=true
  ·have HW:Hid (t.low=t.keys.headD ByteArray.empty):=T.low_leaf hl
   have hK:=hX0.keys
   have HK:Hid (t.keys.length=kn):=hK.1
   clear hX hX0 ih
   obtain ⟨n,hn⟩:∃ n,n=t.kids.length:=⟨_,rfl⟩
   rw [<-hn] at hb0 hK ⊢
   clear hn
   rw [hl] at hb0 hK ⊢
   generalize t.page=p at hb0 hK ⊢
   clear hl
   by_cases hk:kn=0
   ·subst hk
    have HE:Hid (t.low=ByteArray.empty):=by
     show _=_
     rw [HW.out,List.eq_nil_of_length_eq_zero HK.out]
     rfl
    go_enter Tryz.func53,Tryz.ntmps53
    go_wp2
    go_ret
    exact ⟨by rw [HE.out];rfl,hb0⟩
   ·obtain ⟨b,off,rfl,_,_,e0⟩:=StrsAt.at hK (i:=0) (by omega)
    have HE:Hid (t.low=t.keys.getD 0 ByteArray.empty):=by
     show _=_
     rw [HW.out]
     cases t.keys<;>rfl
    rw [Nat.add_zero] at e0
    generalize t.keys.getD 0 ByteArray.empty=s at e0 HE
    clear hK HW
    go_enter Tryz.func53,Tryz.ntmps53
    go_wp2
    go_ret
    exact ⟨by rw [HE.out];rfl,hb0⟩
  ·have hl2:t.leaf=false:=by simpa using hl
   obtain ⟨h2,h4⟩:=good_two hg hl2
   obtain ⟨b,off,rfl,hbl,k,hki,hkm,ka',kn',kc',va',vn',vc',oa',on',oc',ya',yc',css',hXk,c0,c1,c2,c3,c4,c5⟩:=hX0.at (i:=0) (by omega)
   have HW:Hid (t.low=k.low):=by
    show _=_
    cases e:t.kids with
    | nil=>rw [e] at h2;simp at h2
    | cons a r=>rw [e] at hki;simp at hki;subst hki;exact T.low_inner hl2 e
   have IH:=ih k hkm ⟨false,good_kid hg hkm⟩
   simp only [Nat.zero_mul,Nat.add_zero] at c0 c1 c2 c3 c4 c5
   clear hX hX0 hki hkm ih
   obtain ⟨n,hn⟩:∃ n,n=t.kids.length:=⟨_,rfl⟩
   rw [<-hn] at hb0 hXk c0 c1 c2 c3 c4 c5 h2 h4 ⊢
   clear hn
   rw [hl2] at hb0 hXk c0 c1 c2 c3 c4 c5 ⊢
   generalize t.page=p at hb0 hXk c0 c1 c2 c3 c4 c5 ⊢
   clear hl hl2
   go_enter Tryz.func53,Tryz.ntmps53
   go_wp2_with fail
   refine (IH _ ka' kn' kc' va' vn' vc' oa' on' oc' ya' yc' css' (by simp;omega) hXk).mono ?_
   rintro e w1 ⟨rfl,hb1⟩
   go_wp2_with fail
   go_ret
   exact ⟨by rw [HW.out];rfl,hb0.trans (hb1.mono (by simp))⟩
theorem sum_take_succ {l:List Nat} {k:Nat} (h:k<l.length):(l.take (k+1)).sum=(l.take k).sum+l[k]:=by
 rw [List.take_succ_eq_append_getElem h,List.sum_append];simp
theorem sum_take_le (l:List Nat) (k:Nat):(l.take k).sum<=l.sum:=by
 have:=List.take_append_drop k l
 have h2:=congrArg List.sum this
 rw [List.sum_append] at h2
 omega
theorem nodes_kid {t k:T} {i:Nat} (h:t.kids[i]?=some k):k.nodes<t.nodes:=by
 rw [T.nodes_eq t]
 obtain ⟨hi,e⟩:=List.getElem?_eq_some_iff.1 h
 have h1:=sum_take_succ (l:=t.kids.map T.nodes) (k:=i) (by simpa using hi)
 have h2:=sum_take_le (t.kids.map T.nodes) (i+1)
 simp [e] at h1
 omega
theorem l3Nodes_any (C:Nat):∀ (t:T),t.nodes<=1000000->∀ (w:World) (ka:Option Addr) (kn kc:Nat) (va:Option Addr) (vn vc:Nat) (oa:Option Addr) (on oc:Nat) (ya:Option Addr) (yc:Nat) (css:Nat->List Value),C<=w.heap.size->NodeX w 0 C (fun b=>b<C) t ka kn kc va vn vc oa on oc ya yc css ->
  Calls Tryz.prog 50 #[.agg #[.bool t.leaf,.int .i64 t.page,.slice ka kn kc,.slice va vn vc,.slice oa on oc,.slice ya t.kids.length yc]] w fun e w'=>e=.returned (.int .i64 t.nodes)∧Below w.heap.size w w':=by
 intro t
 induction t using T.ind with
 | h t ih =>
  intro hN w ka kn kc va vn vc oa on oc ya yc css hC hX
  have hb0:Below w.heap.size w (w.alloc (.cells #[.bool t.leaf,.int .i64 t.page,.slice ka kn kc,.slice va vn vc,.slice oa on oc,.slice ya t.kids.length yc] 47)):=(Below.refl _ _).alloc (Nat.le_refl _) _
  have hX0:=hX.belowC (hb0.mono hC)
  have A0:=heap_alloc_new w (.cells #[.bool t.leaf,.int .i64 t.page,.slice ka kn kc,.slice va vn vc,.slice oa on oc,.slice ya t.kids.length yc] 47)
  have s0:(w.alloc (.cells #[.bool t.leaf,.int .i64 t.page,.slice ka kn kc,.slice va vn vc,.slice oa on oc,.slice ya t.kids.length yc] 47)).heap.size=w.heap.size+1:=by simp
  have HT:Hid (t.nodes=1+(t.kids.map T.nodes).sum):=T.nodes_eq t
  have hle:t.kids.length<=maxLen:=Nat.le_trans hX.cap.1 hX.cap.2
  unfold maxLen at hle
  have IH:Hid (∀ (i:Nat) (k:T),t.kids[i]?=some k->k ∈ t.kids->k.nodes<=1000000->∀ (w:World) (ka:Option Addr) (kn kc:Nat) (va:Option Addr) (vn vc:Nat) (oa:Option Addr) (on oc:Nat) (ya:Option Addr) (yc:Nat) (css:Nat->List Value),C<=w.heap.size->NodeX w 0 C (fun b=>b<C) k ka kn kc va vn vc oa on oc ya yc css ->
   Calls Tryz.prog 50 #[.agg #[.bool k.leaf,.int .i64 k.page,.slice ka kn kc,.slice va vn vc,.slice oa on oc,.slice ya k.kids.length yc]] w fun e w'=>e=.returned (.int .i64 k.nodes)∧Below w.heap.size w w'):=fun i k _ hm=>ih k hm
  have HX:Hid (NodeX (w.alloc (.cells #[.bool t.leaf,.int .i64 t.page,.slice ka kn kc,.slice va vn vc,.slice oa on oc,.slice ya t.kids.length yc] 47)) 0 C (fun b=>b<C) t ka kn kc va vn vc oa on oc ya yc css):=hX0
  clear hX hX0 ih
  obtain ⟨n,hn⟩:∃ n,n=t.kids.length:=⟨_,rfl⟩
  have HNN:Hid (n=t.kids.length):=hn
  rw [<-hn] at hb0 A0 s0 hle ⊢
  rw [<-hn] at HX
  clear hn
  generalize t.leaf=lf at hb0 A0 s0 HX ⊢
  generalize t.page=p at hb0 A0 s0 HX ⊢
  go_enter Tryz.func50,Tryz.ntmps50
  go_wp2
  generalize w.alloc (.cells #[.bool lf,.int .i64 p,.slice ka kn kc,.slice va vn vc,.slice oa on oc,.slice ya n yc] 47)=W0 at hb0 A0 s0 HX ⊢
  go_loopw [3,4] (fun o i wr=>∃ (j:Nat) (r:Nat),j<=n∧i=.int .i64 j∧o=.int .i64 r∧r<=1000000∧Hid (r=1+((t.kids.map T.nodes).take j).sum)∧Below W0.heap.size W0 wr) (fun _ i _=>n - (intOf i).toNat)
  case atStart=>exact ⟨0,1,Nat.zero_le _,rfl,rfl,by omega,by show _=_;simp,Below.refl _ _⟩
  case round =>
   obtain ⟨j,r,hj,rfl,rfl,hr,HR,hbel⟩:=hrel
   have A1:=(hbel.block _ (by omega)).trans A0
   obtain ⟨x0,x1,x2,x3,x4,x5⟩:=box6 A1
   have l1:w.heap.size<wr.heap.size:=by have:=hbel.size;omega
   by_cases hlt:j<n
   ·obtain ⟨b,off,rfl,hbl,k,hki,hkm,ka',kn',kc',va',vn',vc',oa',on',oc',ya',yc',css',hXk,c0,c1,c2,c3,c4,c5⟩:=(HX.out.belowC (hbel.mono (by omega))).at (i:=j) (by have:=HNN.out;omega)
    have hnk:=nodes_kid hki
    have HS:Hid (((t.kids.map T.nodes).take (j+1)).sum=((t.kids.map T.nodes).take j).sum+k.nodes∧((t.kids.map T.nodes).take (j+1)).sum<=(t.kids.map T.nodes).sum):=by
     refine ⟨?_,sum_take_le _ _⟩
     have:=sum_take_succ (l:=t.kids.map T.nodes) (k:=j) (by simp;have:=HNN.out;omega)
     obtain ⟨hi,e⟩:=List.getElem?_eq_some_iff.1 hki
     simp only [List.getElem_map,e] at this
     exact this
    have IHk:=IH.out j k hki hkm (by omega)
    clear hki hkm
    go_wp2_with fail
    refine (IHk wr ka' kn' kc' va' vn' vc' oa' on' oc' ya' yc' css' (by omega) hXk).mono ?_
    rintro e w1 ⟨rfl,hb1⟩
    have HR2:Hid (r+k.nodes=1+((t.kids.map T.nodes).take (j+1)).sum):=by
     have e1:=HR.out;have e2:=HS.out.1
     show _=_
     omega
    have hr2:r+k.nodes<=1000000:=by
     have e1:=HR2.out;have e2:=HS.out.2;have e3:=HT.out
     omega
    have hbel2:=hbel.trans (hb1.mono hbel.size)
    clear c0 c1 c2 c3 c4 c5 hXk IHk HS hnk x0 x1 x2 x3 x4 x5 A1
    generalize k.nodes=m at *
    go_wp2
    go_roundw
    case rel=>exact ⟨j+1,r+m,by omega,by go_num,by go_num,hr2,HR2,hbel2⟩
    case measure=>simp [intOf];omega
   ·have HE:Hid (t.nodes=r):=by
     have e1:=HR.out;have e2:=HT.out;have e3:=HNN.out
     rw [List.take_of_length_le (by simp;omega)] at e1
     show _=_
     omega
    go_wp2
    go_ret
    exact ⟨by rw [HE.out];rfl,hb0.trans (hbel.mono (by omega))⟩
def CallAt (f C:Nat) (t:T) (more:List Value) (Q:World->Ending->World->Prop):Prop :=
 ∀ (w:World) (ka:Option Addr) (kn kc:Nat) (va:Option Addr) (vn vc:Nat) (oa:Option Addr) (on oc:Nat) (ya:Option Addr) (yc:Nat) (css:Nat->List Value),C<=w.heap.size->NodeX w 0 C (fun b=>b<C) t ka kn kc va vn vc oa on oc ya yc css ->
  Calls Tryz.prog f ((Value.agg #[.bool t.leaf,.int .i64 t.page,.slice ka kn kc,.slice va vn vc,.slice oa on oc,.slice ya t.kids.length yc])::more).toArray w (Q w)
theorem sum_get_le {l:List Nat} {x:Nat} (h:x ∈ l):x<=l.sum:=by
 induction l with
 | nil=>cases h
 | cons a r ih =>
  rcases List.mem_cons.1 h with rfl | h
  ·simp
  ·have:=ih h;simp;omega
theorem ht_le (t:T):-1<=t.ht∧t.ht<t.nodes:=by
 induction t using T.ind with
 | h t ih =>
  rw [T.ht_eq,T.nodes_eq]
  split
  ·omega
  ·match e:t.kids with
   | []=>simp [T.htOf]
   | k::r =>
    have h1:=ih k (by rw [e];exact List.mem_cons_self ..)
    simp only [List.map_cons,List.sum_cons]
    have e2:T.htOf (k.ht::r.map T.ht)=(if k.ht<0 then (-1:Int) else if (r.map T.ht).all (fun x=>x == k.ht) then k.ht+1 else -1):=rfl
    rw [e2]
    split
    ·have:=h1.1;omega
    ·split<;>omega
theorem htOf_bad {l:List Int} {j:Nat} {v h:Int} (hj:l[j]?=some v) (hall:∀ i x,i<j->l[i]?=some x->x=h∧0<=h) (hv:v<0∨(0<j∧v≠h)):T.htOf l=-1:=by
 cases l with
 | nil=>simp at hj
 | cons a r =>
  show (if a<0 then (-1:Int) else if r.all (fun x=>x == a) then a+1 else -1)=-1
  cases j with
  | zero =>
   simp at hj
   subst hj
   rw [if_pos (by omega)]
  | succ j =>
   have ha:=hall 0 a (by omega) (by simp)
   rw [if_neg (by omega),if_neg]
   intro hc
   have:=List.all_eq_true.1 hc v (by simp at hj;exact List.mem_of_getElem? hj)
   simp at this
   omega
theorem htOf_end {l:List Int} {h:Int} (hall:∀ i x,i<l.length->l[i]?=some x->x=h∧0<=h) (h0:l.length=0->h=-1):T.htOf l=h+1:=by
 cases l with
 | nil=>rw [h0 rfl];rfl
 | cons a r =>
  have ha:=hall 0 a (by simp) (by simp)
  rw [htOf_all (by omega)]
  ·omega
  ·intro x hx
   obtain ⟨i,hi⟩:=List.mem_iff_getElem?.1 hx
   have:=hall (i+1) x (by have:=(List.getElem?_eq_some_iff.1 hi).1;simp;omega) (by simpa using hi)
   omega
theorem l3Height_any (C:Nat):∀ (t:T),t.nodes<=1000000->CallAt 49 C t [] (fun w e w'=>e=.returned (.int .i64 t.ht)∧Below w.heap.size w w'):=by
 intro t
 induction t using T.ind with
 | h t ih =>
  intro hN w ka kn kc va vn vc oa on oc ya yc css hC hX
  have hb0:Below w.heap.size w (w.alloc (.cells #[.bool t.leaf,.int .i64 t.page,.slice ka kn kc,.slice va vn vc,.slice oa on oc,.slice ya t.kids.length yc] 47)):=(Below.refl _ _).alloc (Nat.le_refl _) _
  have hX0:=hX.belowC (hb0.mono hC)
  have A0:=heap_alloc_new w (.cells #[.bool t.leaf,.int .i64 t.page,.slice ka kn kc,.slice va vn vc,.slice oa on oc,.slice ya t.kids.length yc] 47)
  have s0:(w.alloc (.cells #[.bool t.leaf,.int .i64 t.page,.slice ka kn kc,.slice va vn vc,.slice oa on oc,.slice ya t.kids.length yc] 47)).heap.size=w.heap.size+1:=by simp
  have HT:Hid (t.ht=if t.leaf then 0 else T.htOf (t.kids.map T.ht)):=T.ht_eq t
  have hle:t.kids.length<=maxLen:=Nat.le_trans hX.cap.1 hX.cap.2
  unfold maxLen at hle
  have IH:Hid (∀ (i:Nat) (k:T),t.kids[i]?=some k->k ∈ t.kids->CallAt 49 C k [] (fun w e w'=>e=.returned (.int .i64 k.ht)∧Below w.heap.size w w')):=fun i k hi hm=>ih k hm (by have:=nodes_kid hi;omega)
  have HX:Hid (NodeX (w.alloc (.cells #[.bool t.leaf,.int .i64 t.page,.slice ka kn kc,.slice va vn vc,.slice oa on oc,.slice ya t.kids.length yc] 47)) 0 C (fun b=>b<C) t ka kn kc va vn vc oa on oc ya yc css):=hX0
  have HB:Hid (∀ (i:Nat) (k:T),t.kids[i]?=some k->-1<=k.ht∧k.ht<1000000):=fun i k hi=>by have:=nodes_kid hi;have:=ht_le k;omega
  clear hX hX0 ih
  obtain ⟨n,hn⟩:∃ n,n=t.kids.length:=⟨_,rfl⟩
  have HNN:Hid (n=t.kids.length):=hn
  rw [<-hn] at hb0 A0 s0 hle ⊢
  rw [<-hn] at HX
  clear hn
  by_cases hl:t.leaf=true
  ·have HE:Hid (t.ht=0):=by show _=_;rw [HT.out,if_pos hl]
   rw [hl] at hb0 ⊢
   generalize t.page=p at hb0 ⊢
   clear A0 s0 HX HT hl
   go_enter Tryz.func49,Tryz.ntmps49
   go_wp2
   go_ret
   exact ⟨by rw [HE.out];rfl,hb0⟩
  have HE:Hid (t.ht=T.htOf (t.kids.map T.ht)):=by show _=_;rw [HT.out,if_neg hl]
  have hl2:t.leaf=false:=by simpa using hl
  rw [hl2] at hb0 A0 s0 HX ⊢
  clear hl hl2 HT
  generalize t.page=p at hb0 A0 s0 HX ⊢
  go_enter Tryz.func49,Tryz.ntmps49
  go_wp2
  generalize w.alloc (.cells #[.bool false,.int .i64 p,.slice ka kn kc,.slice va vn vc,.slice oa on oc,.slice ya n yc] 47)=W0 at hb0 A0 s0 HX ⊢
  go_loopw [3,4] (fun o i wr=>∃ (j:Nat) (h:Int),j<=n∧i=.int .i64 j∧o=.int .i64 h∧(-1<=h∧h<1000000)∧Hid ((∀ i x,i<j->(t.kids.map T.ht)[i]?=some x->x=h∧0<=h)∧(j=0->h=-1))∧Below W0.heap.size W0 wr) (fun _ i _=>n - (intOf i).toNat)
  case atStart=>exact ⟨0,-1,Nat.zero_le _,rfl,rfl,by omega,⟨fun i x hi=>by omega,fun _=>rfl⟩,Below.refl _ _⟩
  case round =>
   obtain ⟨j,h,hj,rfl,rfl,hh,HR,hbel⟩:=hrel
   have A1:=(hbel.block _ (by omega)).trans A0
   obtain ⟨x0,x1,x2,x3,x4,x5⟩:=box6 A1
   have l1:w.heap.size<wr.heap.size:=by have:=hbel.size;omega
   by_cases hlt:j<n
   ·obtain ⟨b,off,rfl,hbl,k,hki,hkm,ka',kn',kc',va',vn',vc',oa',on',oc',ya',yc',css',hXk,c0,c1,c2,c3,c4,c5⟩:=(HX.out.belowC (hbel.mono (by omega))).at (i:=j) (by have:=HNN.out;omega)
    have HM:Hid ((t.kids.map T.ht)[j]?=some k.ht):=by show _=_;rw [List.getElem?_map,hki];rfl
    have hkb:=HB.out j k hki
    have IHk:=IH.out j k hki hkm
    clear hki hkm
    go_wp2_with fail
    refine (IHk wr ka' kn' kc' va' vn' vc' oa' on' oc' ya' yc' css' (by omega) hXk).mono ?_
    rintro e w1 ⟨rfl,hb1⟩
    have hbel2:=hbel.trans (hb1.mono hbel.size)
    clear c0 c1 c2 c3 c4 c5 hXk IHk x0 x1 x2 x3 x4 x5 A1
    generalize k.ht=v at *
    by_cases t1:v<0
    ·have HZ:Hid (t.ht=-1):=by show _=_;rw [HE.out];exact htOf_bad HM.out HR.out.1 (.inl t1)
     go_wp2
     go_ret
     exact ⟨by rw [HZ.out];rfl,hb0.trans (hbel2.mono (by omega))⟩
    ·by_cases t2:0<j
     ·by_cases t3:v=h
      ·have s3:(v != h)=false:=by simp [t3]
       have HR2:Hid ((∀ i x,i<j+1->(t.kids.map T.ht)[i]?=some x->x=v∧0<=v)∧(j+1=0->v=-1)):=by
        refine ⟨fun i x hi hx=>?_,fun h=>by omega⟩
        by_cases hij:i=j
        ·subst hij
         rw [HM.out] at hx
         simp at hx
         omega
        ·have:=HR.out.1 i x (by omega) hx
         omega
       clear HR t3
       go_wp2
       go_roundw
       case rel=>exact ⟨j+1,v,by omega,by go_num,rfl,by omega,HR2,hbel2⟩
       case measure=>simp [intOf];omega
      ·have s3:(v != h)=true:=by simpa using t3
       have HZ:Hid (t.ht=-1):=by show _=_;rw [HE.out];exact htOf_bad HM.out HR.out.1 (.inr ⟨t2,t3⟩)
       clear t3
       go_wp2
       go_ret
       exact ⟨by rw [HZ.out];rfl,hb0.trans (hbel2.mono (by omega))⟩
     ·have HR2:Hid ((∀ i x,i<j+1->(t.kids.map T.ht)[i]?=some x->x=v∧0<=v)∧(j+1=0->v=-1)):=by
       refine ⟨fun i x hi hx=>?_,fun h=>by omega⟩
       have hij:i=j:=by omega
       subst hij
       rw [HM.out] at hx
       simp at hx
       omega
      clear HR
      go_wp2
      go_roundw
      case rel=>exact ⟨j+1,v,by omega,by go_num,rfl,by omega,HR2,hbel2⟩
      case measure=>simp [intOf];omega
   ·have HZ:Hid (t.ht=h+1):=by
     have e3:=HNN.out
     show _=_
     rw [HE.out]
     exact htOf_end (fun i x hi hx=>HR.out.1 i x (by simp at hi;omega) hx) (fun h=>HR.out.2 (by simp at h;rw [h] at e3;simp at e3;omega))
    go_wp2
    go_ret
    exact ⟨by rw [HZ.out];rfl,hb0.trans (hbel.mono (by omega))⟩
end Go.Proofs.YtbfggcekifaldaaGreat
