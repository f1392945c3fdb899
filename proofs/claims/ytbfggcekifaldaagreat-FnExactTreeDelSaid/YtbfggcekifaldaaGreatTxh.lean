import Derived.Test.YtbfggcekifaldaaGreatHTvl
import Derived.Test.YtbfggcekifaldaaGreatHTuo
namespace Go.Proofs.YtbfggcekifaldaaGreat
open Go.RowKit
set_option linter.unusedVariables false
set_option linter.unusedSimpArgs false
set_option maxRecDepth 100000
theorem look_has {key:ByteArray} {zs:List (ByteArray × ByteArray × Int)}:(lookT key zs).isSome=true ↔ HasK key zs:=by
 unfold lookT HasK
 rw[List.find?_isSome]
 constructor
 ·rintro ⟨s,h1,h2⟩;exact⟨s,h1,by simpa using h2⟩
 ·rintro ⟨s,h1,h2⟩;exact⟨s,h1,by simpa using h2⟩
theorem has_toward {t k:T} {key:ByteArray} {m:Nat} (hl:t.leaf=false) (hg:∃ r,t.good r=true) (hs:SortT t.slots) (hm:TowardIs t key m) (hk:t.kids[m]?=some k):HasK key t.slots ↔ HasK key k.slots:=by
 rw[<-look_has,<-look_has,(look_toward hl hg hs hm hk).1]
def DelOk (key:ByteArray) (k:T):Prop:=∀ (w:World) (P:Nat->Prop) (ty:TypeId) (v:Value),GM w P k (.iface ty v)->(∀ b,P b->b<w.heap.size)->(∀ w,(nilAhead 261 ty v "loop.example/s02098/impl.del").run Tryz.prog w=.ok (some false) w)∧∃ f r,(∀ w,(method 261 ty v "loop.example/s02098/impl.del").run Tryz.prog w=.ok (f,r) w)∧(∀ x w,(callFunc f #[r,x]).run Tryz.prog w=.ok (.enter f #[r,x]) w)∧Calls Tryz.prog f #[r,.string key] w fun e w'=>DelAns w P key k (.iface ty v) e w'
set_option maxHeartbeats 4000000 in
theorem innerDel_any {w:World} {P:Nat->Prop} {t:T} {L:Nat} {a:Option Addr} {n c:Nat} {ul:List Value} {Q:Nat->Nat->Prop} (h:GMI w P t L a n c ul Q) (hl:t.leaf=false) {r:Bool} (hg:t.good r=true) (hnt:Neat t) (hh:0<=t.ht) (hso:SortT t.slots) (hnd:t.nodes<=100000) (hP:∀ b,P b->b<w.heap.size) (key:ByteArray) (IH:∀ k ∈ t.kids,(∃ i,TowardIs t key i∧t.kids[i]?=some k)->DelOk key k) :
  Calls Tryz.prog 88 #[.pointer (some ⟨L,0,none⟩),.string key] w fun e w'=>DelAns w P key t (.iface 94 (.pointer (some ⟨L,0,none⟩))) e w':=by
 obtain⟨N,hN⟩:∃ N,w.heap.size=N:=⟨_,rfl⟩
 have hLN:L<N:=by have:=hP L h.at';omega
 have hn':=(neat_eq t).1 hnt
 have h24:=good_two hg hl
 have hlen:=h.len
 have hn:2<=n∧n<=4:=by omega
 have hkh:=ht_kids hl (hn'.2.1 hl).2.2.2 hh
 have hko:∀ k ∈ t.kids,k.nodes<=100000∧k.good false=true∧0<=k.ht:=fun k hk=>⟨by have:=nodesG_kid hk;omega,good_kid hg hk,(hkh k hk).2⟩
 have htow:=toward_any h.see (by omega) (by omega) (fun i k hi=>by
  have hkm:k ∈ t.kids:=List.mem_of_getElem? hi
  have hgk:=h.kid i k hkm hi
  obtain⟨ty,v,e⟩:=hgk.shape
  rw[e] at hgk
  obtain⟨o1,o2,o3⟩:=hko k hkm
  have hks:0<k.size:=by have:=(good_parts o2).1;simp at this;omega
  exact⟨ty,v,e,(GIs.obj k ty v o1 ⟨false,o2⟩ o3 (GM.see _ _ _ hgk)).least hks⟩) key
 have HH:Hid (GMI w P t L a n c ul Q):=h
 have HIH:Hid (∀ k ∈ t.kids,(∃ i,TowardIs t key i∧t.kids[i]?=some k)->DelOk key k):=IH
 have HLF:Hid (t.leaf=false∧t.good r=true∧Neat t∧0<=t.ht∧SortT t.slots):=⟨hl,hg,hnt,hh,hso⟩
 have hcap:=row_cap h
 have hcc:=hcap.1
 have hcm:=hcap.2
 unfold maxLen at hcm
 have HKH:Hid (∀ z ∈ t.kids,z.ht=t.ht - 1∧0<=z.ht):=hkh
 clear IH hl hg hnt hh hso hnd hko hcap h hn' h24 hkh
 go_enter Tryz.func88,Tryz.ntmps88
 go_wp2_with fail
 refine htow.mono ?_
 rintro e wx ⟨m,rfl,hm,rfl⟩
 obtain⟨hl,hg,hnt,hh,hso⟩:=HLF.out
 have hmn:m<n:=by have:=hm.1;omega
 have HTW:Hid (towN key t.kids=m):=tow_is hm
 obtain⟨k,hk⟩:∃ k,t.kids[m]?=some k:=⟨_,List.getElem?_eq_getElem hm.1⟩
 have hkm:k ∈ t.kids:=List.mem_of_getElem? hk
 obtain⟨b,ty,v,rfl,eu,hcell⟩:=getD_kid HH.out hmn
 have hgk:=HH.out.kid m k hkm hk
 rw[eu] at hgk
 obtain⟨hna,f,r',hme,hcf,hcall⟩:=HIH.out k hkm ⟨m,hm,hk⟩ wx (Q m) ty v hgk (fun x hx=>hP x (HH.out.sub m x hx).1)
 have hcf2:=hcf (.string key)
 obtain⟨pg,hpg⟩:∃ pg,t.page=pg:=⟨_,rfl⟩
 have hbox:=HH.out.box
 rw[hpg] at hbox
 obtain⟨c0,c1⟩:=box_twoG hbox
 have l1:L<wx.heap.size:=by omega
 have hbl:b<wx.heap.size:=lt_of_cellG hcell
 have HAS:Hid (HasK key t.slots ↔ HasK key k.slots):=has_toward hl ⟨r,hg⟩ hso hm hk
 have hkg:k.good false=true:=good_kid hg hkm
 have hn':=(neat_eq t).1 hnt
 have HDI:Hid (HasK key k.slots->DelIs key k (delT key k)):=fun hx=>del_is key k false hkg (hn'.2.2 k hkm) (HKH.out k hkm).2 (look_toward hl ⟨r,hg⟩ hso hm hk).2 hx
 have HDT:Hid (delT key t=⟨false,0,[],[],[],delK m t.kids (delT key k)⟩):=by
  show _=_
  have:=delT_inner (key:=key) hl (k:=k) (by rw[HTW.out];exact hk)
  rw[HTW.out] at this
  exact this
 have HEU:Hid (ul.getD m .nilIface=.iface ty v):=eu
 have hks:2<=k.size:=by have:=(good_parts hkg).1;simp at this;omega
 have HOT:Hid (∀ (j:Nat) z d,j≠m->(t.kids.set m d)[j]?=some z->Fit z (t.ht - 1)):=fun j z d hj hz=>by
  rw[List.getElem?_set_ne (Ne.symm hj)] at hz
  have hzm:=List.mem_of_getElem? hz
  exact⟨good_kid hg hzm,hn'.2.2 z hzm,(HKH.out z hzm).1⟩
 have HHT:Hid (k.ht=t.ht - 1∧0<=t.ht - 1):=by have:=HKH.out k hkm;exact⟨this.1,by omega⟩
 have HKL:Hid (n=t.kids.length∧m<t.kids.length):=⟨hlen,hm.1⟩
 clear htow hm hk hkm hgk hcf HIH HTW HLF eu hlen hl hg hnt hh hso hkg hn' HKH
 go_wp2_with fail
 refine hcall.mono ?_
 rintro e V hans
 rcases hans with ⟨rfl,hhas,⟨Pm,hgm,hpm⟩,hfm⟩ | ⟨rfl,hhas,hbV⟩
 ·have hdi:=HDI.out hhas
  obtain⟨d,hdd⟩:∃ d,delT key k=d:=⟨_,rfl⟩
  have sV:=hfm.size
  have h2:=HH.out.swap hP hmn hfm (by rw[HEU.out];exact hgm) hpm
  rw[hdd] at hdi hgm h2
  have hP2:∀ x,Wider wx V P x->x<V.heap.size:=fun x hx=>hx.2
  have boxV:=h2.box
  have FV:Fr (fun z=>P z∨N<=z) wx V:=hfm.weak (fun g e=>.inl (HH.out.sub m g e).1)
  have H2:Hid (GMI V (Wider wx V P) { t with kids:=t.kids.set m d } L (some ⟨b,0,none⟩) n c ul (fun i x=>if i=m then Pm x else Q i x)):=h2
  have hsoil:=soil_any boxV
  have HDD:Hid (delT key k=d):=hdd
  have HDIS:Hid (DelIs key k d):=hdi
  have HHAS:Hid (HasK key t.slots):=HAS.out.2 hhas
  clear hcall c0 c1 hcell hna hme hcf2 h2 hdd hdi hhas HAS HDI
  go_wp2_with fail
  refine hsoil.mono ?_
  rintro e W1 ⟨rfl,hW1⟩
  have h3:=H2.out.set0 hP2 (Below.refl _ V) hW1
  have f1:=fr_setT V L 0 (.int .i64 0)
  rw[<-hW1] at f1
  have s1:=f1.size
  have F1:Fr (fun z=>P z∨N<=z) wx W1:=FV.trans (f1.weak (fun g e=>by rw[e];exact .inl HH.out.at'))
  have H3:Hid (GMI W1 (Wider wx V P) { t with page:=0,kids:=t.kids.set m d } L (some ⟨b,0,none⟩) n c ul (fun i x=>if i=m then Pm x else Q i x)):=h3
  have hP3:∀ x,Wider wx V P x->x<W1.heap.size:=fun x hx=>by have:=hx.2;omega
  have hkd:(t.kids.set m d)[m]?=some d:=by simp[HKL.out.2]
  obtain⟨b9,ty9,v9,e9,eu9,cl9,hns,f2,r2,hms,hcs2,hsize⟩:=kid_size H3.out (x:=d) hkd
  cases e9
  rw[HEU.out] at eu9
  cases eu9
  obtain⟨s,hs⟩:∃ s,d.size=s:=⟨_,rfl⟩
  have HS:Hid (d.size=s):=hs
  rw[hs] at hsize
  have hsm:s<=4∧1<=s:=by have:=HDIS.out.soft.size;omega
  have hbox3:=H3.out.box
  obtain⟨c0,c1⟩:=box_twoG hbox3
  have l3:L<W1.heap.size:=by omega
  have lb3:b<W1.heap.size:=lt_of_cellG cl9
  have HFIN:Hid (∀ e W2 ys,KidsAns W1 (Wider wx V P) { t with page:=0,kids:=t.kids.set m d } L ys e W2->ys=delK m t.kids d->DelAns wx P key t (.iface 94 (.pointer (some ⟨L,0,none⟩))) (.returned (.bool true)) W2):=by
   rintro e W2 ys ⟨_,⟨P',a',n',c',ul',Q',hI,hp'⟩,hf'⟩ hys
   refine .inl ⟨rfl,HHAS.out,⟨P',?_,fun z hz=>?_⟩,fr_tight ?_⟩
   ·rw[HDT.out,HDD.out]
    refine GMI.is (t:=⟨false,0,[],[],[],_⟩) (hI.re rfl ?_) rfl
    show _=ys
    rw[hys]
   ·have h9:=hp' z hz
    refine⟨?_,h9.2⟩
    rcases h9.1 with e | e
    ·exact e.1
    ·exact .inr (by omega)
   ·rw[hN]
    refine F1.trans (hf'.weak (fun z hz=>?_))
    rcases hz.1 with e | e
    ·exact .inl e
    ·exact .inr (by omega)
  clear hsoil hW1 f1 FV h3 hfm hpm hgm boxV
  go_wp2_with fail
  refine hsize.mono ?_
  rintro e W2 ⟨rfl,rfl⟩
  by_cases h2:s<2
  ·have hd1:(s:Int)<2:=by omega
   have fd:Few d (t.ht - 1):=by
    have hdi:=HDIS.out
    have hds:0<d.size:=by rw[HS.out];omega
    have hone:d.size=1:=by rw[HS.out];omega
    exact⟨⟨hdi.soft.page,by omega,hdi.soft.leaf,hdi.soft.kids⟩,hdi.neat hds,by rw[hdi.ht hds];exact HHT.out.1⟩
   have hmend:=mend_any H3.out hP3 hn HHT.out.2 hkd fd (fun j z hj hz=>HOT.out j z d hj hz)
   have HDK:Hid (mendT (t.kids.set m d) m=delK m t.kids d):=by show _=_;unfold delK;rw[if_pos (by rw[HS.out];exact h2)]
   clear hsize hns hms hcs2 fd hkd cl9 c0 c1 hbox3
   go_wp2_with fail
   refine hmend.mono ?_
   rintro e W3 hka
   have hrt:=hka.1
   subst hrt
   have HF:Hid (DelAns wx P key t (.iface 94 (.pointer (some ⟨L,0,none⟩))) (.returned (.bool true)) W3):=HFIN.out _ _ _ hka HDK.out
   clear hmend hka
   go_wp2_with fail
   go_ret
   exact HF.out
  ·have hd1:¬ ((s:Int)<2):=by omega
   have HDK:Hid (t.kids.set m d=delK m t.kids d):=by show _=_;unfold delK;rw[if_neg (by rw[HS.out];exact h2)]
   have HF:Hid (DelAns wx P key t (.iface 94 (.pointer (some ⟨L,0,none⟩))) (.returned (.bool true)) W2):=HFIN.out _ _ _ ⟨rfl,⟨_,_,_,_,_,_,H3.out,fun z hz=>⟨.inl hz,hP3 z hz⟩⟩,Fr.refl _ _⟩ HDK.out
   clear hsize hns hms hcs2 hkd cl9 c0 c1 hbox3 HFIN
   go_wp2_with fail
   go_ret
   exact HF.out
 ·have HF:Hid (DelAns wx P key t (.iface 94 (.pointer (some ⟨L,0,none⟩))) (.returned (.bool false)) V):=.inr ⟨rfl,fun e=>hhas (HAS.out.1 e),hbV⟩
  clear hcall c0 c1 hcell hna hme hcf2 hhas hbV
  go_wp2_with fail
  go_ret
  exact HF.out
theorem delOk_all (key:ByteArray):∀ (t:T) (r:Bool),t.nodes<=100000->t.good r=true->0<=t.ht->Neat t->SortT t.slots->DelOk key t:=by
 intro t
 induction t using T.ind with
 | h t ih =>
  intro r hn hg hh hs hso w P ty v hG hP
  have hn':=(neat_eq t).1 hs
  obtain⟨hsz,hlf,hkd⟩:=good_parts hg
  cases hl:t.leaf
  ·obtain⟨L,a,n,c,ul,Q,e,q⟩:=hG.inner hl
   cases e
   have hkh:=ht_kids hl (hn'.2.1 hl).2.2.2 hh
   refine⟨fun w=>by kernel_rfl,88,.pointer (some ⟨L,0,none⟩),fun w=>by kernel_rfl,fun x w=>by kernel_rfl,?_⟩
   exact innerDel_any q hl hg hs hh hso hn hP key (fun k hk ⟨i,hi,hki⟩=>ih k hk false (by have:=nodesG_kid hk;omega) (hkd k hk) (hkh k hk).2 (hn'.2.2 k hk) (look_toward hl ⟨r,hg⟩ hso hi hki).2)
  ·obtain⟨L,a,n,c,e,q⟩:=hG.leaf hl
   cases e
   have hsk:t.size=n:=by rw[q.len];simp[T.size,hl]
   have hsl:t.slots=t.keys.zip (t.vals.zip t.over):=by rw[T.slots_eq,if_pos hl,hn'.1 hl];simp
   rw[hsl] at hso
   refine⟨fun w=>by kernel_rfl,107,.pointer (some ⟨L,0,none⟩),fun w=>by kernel_rfl,fun x w=>by kernel_rfl,?_⟩
   exact leafDel_any q hl (hn'.1 hl) hso (by omega) hP key
end Go.Proofs.YtbfggcekifaldaaGreat
