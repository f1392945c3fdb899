import Derived.Test.YtkhglgalbifcnaaGreatGAH
import Derived.Test.YtkhglgalbifcnaaGreatGAM
namespace Go.Proofs.YtkhglgalbifcnaaGreat
set_option maxHeartbeats 4000000
open Go.RowKit
set_option linter.unusedVariables false
set_option linter.unusedSimpArgs false
set_option maxRecDepth 100000
theorem wpList_append_slT {P:Program} (w:World) {ops:Array Oper} {rest:List Oper} {o:Oper} {a:Act} {Q:Exit->Act->World->Prop} (hgd:o.guard=none) (s x:Operand) (t:TypeId)
  (ho:o.op=.call { callee:=.builtin .append,args:=#[s,x],argTypes:=#[t,t] })
  (base:Nat) (e:TypeId) (i:TypeInfo) (z:Value) (bytes:Nat) (ht:P.underlying t=some (.slice e)) (hi:P.info? e=some i) (hz:i.zero=some z)
  (hsize:i.size=3) (hby:i.bytes=bytes) (hzs:z.cells.size=3)
  (v:Value) (n:Nat) (xs:List Value) (hs:a.eval s=v) (hown:w.ownsRow base e 3 v n xs)
  {Pb:Nat->Prop} {ad:Option Addr} {m c:Nat} {zs:List (ByteArray × ByteArray × Int)} (hx:a.eval x=.slice ad m c) (hr:SlAt w Pb ad m c zs)
  (h63:n+m<=maxLen) (hbytes:(n+m)*bytes<=140737488355328) (hbase:base<=w.heap.size)
  (h:∀ v' w',w'.ownsRow base e 3 v' (n+m) (xs++rowsOf slCells zs)->w.grownBy w' v.ownBlock->wpList P ops Q rest (a.put o.dst v') w'):wpList P ops Q (o::rest) a w:=by
 obtain⟨hl,hc1,hc2,hc⟩:=hr
 cases ad with
 | none =>
  have h0:m=0:=by
   rcases Nat.eq_zero_or_pos m with h | h
   ·exact h
   ·obtain⟨b,e,_⟩:=hc h;cases e
  subst h0
  have hy:zs=[]:=List.eq_nil_of_length_eq_zero hl
  subst hy
  refine wpList_plain hgd fun _ hK=>?_
  have hrun:=run_append_zeroT (P:=P) w base t o.type e i 3 ht hi _ n xs hown c
  unfold Oper.wp execOp
  simp only[ho,resolve,invoke,builtin,Sem.run_bind,Sem.run_pure,Result.andThen_ok,List.map_toArray,List.map_cons,List.map_nil,hs,hx,hrun]
  exact hK _ _ (h v w (by simpa[rowsOf] using hown) ⟨rfl,rfl,rfl,Nat.le_refl _,fun _ _ _=>rfl⟩)
 | some ad =>
  refine wpList_append_ownD w hgd s x t ho base e i z 3 bytes ht hi hz hsize hby hzs (by omega) v n xs hs hown ad m c (rowsOf slCells zs) hx (by rw[rowsOf_length sl3,hl]) (fun j u hj=>?_) (fun u hu=>?_) h63 hbytes hbase (fun v' w' h1 h2 _=>h v' w' h1 h2)
  ·have hjl:j<m*3:=by
    have:=(List.getElem?_eq_some_iff.1 hj).1
    rwa [rowsOf_length sl3,hl] at this
   obtain⟨b,e,hb,hcc⟩:=hc (by omega)
   cases e
   rw[addr0_add,hcc j hjl,hj]
  ·simp only[rowsOf,List.mem_flatMap,slCells] at hu
   obtain⟨y,_,hy⟩:=hu
   simp at hy
   rcases hy with rfl | rfl | rfl<;>rfl
def SObs (base:Nat) (w:World) (zs:List (ByteArray × ByteArray × Int)) (ty:TypeId) (v:Value):Prop :=
 (∀ w,(nilAhead 297 ty v "loop.example/s02098/impl.slots").run Tryz.prog w=.ok (some false) w)∧∃ f r,(∀ w,(method 297 ty v "loop.example/s02098/impl.slots").run Tryz.prog w=.ok (f,r) w)∧(∀ x w,(callFunc f #[r,x]).run Tryz.prog w=.ok (.enter f #[r,x]) w) ∧
  ∀ (w':World),Below base w w'->∀ (oa:Option Addr) (on oc:Nat) (xs:List Value),w'.ownsRow base 134 3 (.slice oa on oc) on xs->on+zs.length<=100000->base<=w'.heap.size->Calls Tryz.prog f #[r,.slice oa on oc] w' fun e w2=>∃ oa' oc',e=.returned (.slice oa' (on+zs.length) oc')∧w2.ownsRow base 134 3 (.slice oa' (on+zs.length) oc') (on+zs.length) (xs++rowsOf slCells zs)∧Fr (fun k=>base<=k) w' w2
theorem leafSlots_g {base:Nat} {w:World} {P:Nat->Prop} {t:T} {L:Nat} {a:Option Addr} {n c:Nat} (h:GLeaf w P t L a n c) (hP:∀ b,P b->b<base) (w':World) (hb:Below base w w') (oa:Option Addr) (on oc:Nat) (xs:List Value) (hown:w'.ownsRow base 134 3 (.slice oa on oc) on xs) (hm:on+n<=100000) (hbs:base<=w'.heap.size) :
  Calls Tryz.prog 133 #[.pointer (some ⟨L,0,none⟩),.slice oa on oc] w' fun e w2=>∃ oa' oc',e=.returned (.slice oa' (on+n) oc')∧w2.ownsRow base 134 3 (.slice oa' (on+n) oc') (on+n) (xs++rowsOf slCells (t.keys.zip (t.vals.zip t.over)))∧Fr (fun k=>base<=k) w' w2:=by
 have hLb:=hP L h.at'
 have hbox:w'.heap[L]?=some (.cells #[.int .i64 t.page,.slice a n c] 142):=(hb.block L hLb).trans h.box
 obtain⟨c0,c1⟩:=box_twoG hbox
 have hlt:L<w'.heap.size:=by omega
 have hrow:SlAt w' P a n c (t.keys.zip (t.vals.zip t.over)):=h.row.keep (fun b hb2=>hb.block b (hP b hb2)) (fun b h=>h)
 have hlow:=fun g hg=>(hown.lt g hg).1
 obtain⟨i0,hi,hz0,hz1,hz2⟩:=info_parts info_slot
 clear h hbox
 generalize t.keys.zip (t.vals.zip t.over)=zs at *
 generalize t.page=pg at *
 go_enter Tryz.func133,Tryz.ntmps133
 go_wp2_with (at_builtin;refine wpList_append_slT _ rfl _ _ 111 rfl base 134 i0 _ 40 Tryz.underlying111 hi hz0 hz1 hz2 rfl (.slice oa on oc) on xs rfl hown rfl hrow (by unfold maxLen;omega) (by omega) hbs ?_;intro v' w2 h1 h2)
 obtain⟨oa',oc',rfl⟩:=own_shape h1
 go_ret
 exact⟨oa',oc',rfl,h1,Fr.of_grown h2 hlow⟩
theorem innerSlots_g {base:Nat} {w:World} {P:Nat->Prop} {t:T} {L:Nat} {a:Option Addr} {n c:Nat} {us:Nat->Value} (h:GInner w P t L a n c us) (hP:∀ b,P b->b<base) (hk:∀ i k,t.kids[i]?=some k->∃ ty v,us i=.iface ty v∧SObs base w k.slots ty v) (w':World) (hb:Below base w w') (oa:Option Addr) (on oc:Nat) (xs:List Value) (hown:w'.ownsRow base 134 3 (.slice oa on oc) on xs) (hm:on+((t.kids.map T.slots).flatten).length<=100000) (hbs:base<=w'.heap.size) :
  Calls Tryz.prog 143 #[.pointer (some ⟨L,0,none⟩),.slice oa on oc] w' fun e w2=>∃ oa' oc',e=.returned (.slice oa' (on+((t.kids.map T.slots).flatten).length) oc')∧w2.ownsRow base 134 3 (.slice oa' (on+((t.kids.map T.slots).flatten).length) oc') (on+((t.kids.map T.slots).flatten).length) (xs++rowsOf slCells (t.kids.map T.slots).flatten)∧Fr (fun k=>base<=k) w' w2:=by
 have hLb:=hP L h.at'
 have hbox:w'.heap[L]?=some (.cells #[.int .i64 t.page,.slice a n c] 148):=(hb.block L hLb).trans h.box
 obtain⟨c0,c1⟩:=box_twoG hbox
 have hlt:L<w'.heap.size:=by omega
 have HN:Hid (n=t.kids.length):=h.len.1
 have hn63:=Nat.le_trans h.len.2.1 h.len.2.2
 unfold maxLen at hn63
 have HROW:Hid (∀ wr,Fr (fun k=>base<=k) w' wr->∀ i,i<n->∃ b,a=some ⟨b,0,none⟩∧b<wr.heap.size∧wr.cell? ⟨b,i,none⟩=some (us i)):=fun wr hf i hi=>by
  obtain⟨b,e,hpb,hc⟩:=h.row (by omega)
  have:=hP b hpb
  have hcell:wr.cell? ⟨b,i,none⟩=some (us i):=by
   rw[World.cell?_of_block (w:=w) (a:=⟨b,i,none⟩) ((hf.block b (by omega) (by omega)).trans (hb.block b this))]
   exact hc i hi
  exact⟨b,e,lt_of_cellG hcell,hcell⟩
 have HK:Hid (∀ i k,t.kids[i]?=some k->∃ ty v,us i=.iface ty v∧SObs base w k.slots ty v):=hk
 obtain⟨tot,htot⟩:∃ tot,(t.kids.map T.slots).flatten=tot:=⟨_,rfl⟩
 have HTOT:Hid ((t.kids.map T.slots).flatten=tot):=htot
 rw[htot] at hm ⊢
 have HB:Hid (Below base w w'):=hb
 clear h hk hbox htot hb
 generalize t.page=pg at *
 go_enter Tryz.func143,Tryz.ntmps143
 go_wp2_with fail
 clear c0 c1
 go_loopw [1,12] (fun o i wr=>∃ (j m:Nat) (va:Option Addr) (vc:Nat),j<=n∧i=.int .i64 j∧o=.slice va m vc∧Hid (m=on+(((t.kids.map T.slots).take j).flatten).length)∧wr.ownsRow base 134 3 (.slice va m vc) m (xs++rowsOf slCells ((t.kids.map T.slots).take j).flatten)∧Fr (fun k=>base<=k) w' wr) (fun _ i _=>n - (intOf i).toNat)
 case atStart=>exact⟨0,on,oa,oc,Nat.zero_le _,rfl,rfl,by show _=_;simp,by simpa[rowsOf] using hown,Fr.refl _ _⟩
 case round =>
  clear hown
  obtain⟨j,m,va,vc,hj,rfl,rfl,HM,hown,hfr⟩:=hrel
  by_cases hlt2:j<n
  ·obtain⟨b,rfl,hbl,hcell⟩:=HROW.out wr hfr j hlt2
   obtain⟨k,hki⟩:∃ k,t.kids[j]?=some k:=⟨_,List.getElem?_eq_getElem (by have:=HN.out;omega)⟩
   obtain⟨ty,v,hu,ha,f,r,hme,hcf,hcall⟩:=HK.out j k hki
   rw[hu] at hcell
   have hft:((t.kids.map T.slots).take (j+1)).flatten=((t.kids.map T.slots).take j).flatten++k.slots:=by
    obtain⟨hj2,e⟩:=List.getElem?_eq_some_iff.1 hki
    rw[List.take_succ_eq_append_getElem (by simpa using hj2),List.flatten_append]
    simp[e]
   have hfl:=flat_take_le (t.kids.map T.slots) (j+1)
   have hbd:m+k.slots.length<=100000:=by
    rw[hft,List.length_append,HTOT.out] at hfl
    have:=HM.out
    omega
   have hcall2:=hcall wr (HB.out.trans (hfr.below hbs (fun g e=>e))) va m vc _ hown hbd (by have:=hfr.size;omega)
   have HFT:Hid _:=hft
   have hcf2:=hcf (.slice va m vc)
   clear hft hfl hcall hown hu hcf
   go_wp2_with fail
   refine hcall2.mono ?_
   rintro e w2 ⟨va',vc',rfl,hown2,hfr2⟩
   have hown3:w2.ownsRow base 134 3 (.slice va' (m+k.slots.length) vc') (m+k.slots.length) (xs++rowsOf slCells ((t.kids.map T.slots).take (j+1)).flatten):=by
    rw[HFT.out,rowsOf_append,<-List.append_assoc]
    exact hown2
   have HM2:Hid (m+k.slots.length=on+(((t.kids.map T.slots).take (j+1)).flatten).length):=by
    show _=_
    rw[HFT.out,List.length_append]
    have:=HM.out
    omega
   have hfr3:=hfr.trans hfr2
   clear hcall2 hown2 HM hfr hfr2 HFT
   generalize k.slots.length=kl at *
   go_wp2_with fail
   go_roundw
   case rel=>exact⟨j+1,m+kl,va',vc',by omega,by go_num,rfl,HM2,hown3,hfr3⟩
   case measure=>simp[intOf];omega
  ·have HE:Hid (((t.kids.map T.slots).take j).flatten=tot):=by
    show _=_
    rw[<-HTOT.out,List.take_of_length_le (by simp;have:=HN.out;omega)]
   rw[HE.out] at hown HM
   have hmm:m=on+tot.length:=HM.out
   clear HM
   subst hmm
   go_wp2_with fail
   go_ret
   exact⟨va,vc,rfl,hown,hfr⟩
theorem GIs.slots {base:Nat} {w:World} {P:Nat->Prop} (hP:∀ b,P b->b<base):∀ (t:T) (ty:TypeId) (v:Value),Shape t->GIs w P t (.iface ty v)->SObs base w t.slots ty v:=by
 intro t
 induction t using T.ind with
 | h t ih =>
  intro ty v hs h
  rw[shape_eq] at hs
  cases hl:t.leaf
  ·obtain⟨L,a,n,c,us,e,hG⟩:=h.inner hl
   cases e
   have hsl:t.slots=(t.kids.map T.slots).flatten:=by rw[T.slots_eq,if_neg (by simp[hl]),List.nil_append]
   rw[hsl]
   refine⟨fun w=>by kernel_rfl,143,.pointer (some ⟨L,0,none⟩),fun w=>by kernel_rfl,fun x w=>by kernel_rfl,fun w' hb oa on oc xs hown hm hbs=>?_⟩
   refine innerSlots_g hG hP (fun i k hi=>?_) w' hb oa on oc xs hown hm hbs
   have hkm:k ∈ t.kids:=List.mem_of_getElem? hi
   have hK:=hG.kid i k hkm hi
   obtain⟨ty',v',hu⟩:=hK.shape
   rw[hu] at hK
   exact⟨ty',v',hu,ih k hkm ty' v' (hs.2 k hkm) hK⟩
  ·obtain⟨L,a,n,c,e,hG⟩:=h.leaf hl
   cases e
   have hsl:t.slots=t.keys.zip (t.vals.zip t.over):=by rw[T.slots_eq,if_pos hl,hs.1 hl];simp
   rw[hsl]
   have hln:(t.keys.zip (t.vals.zip t.over)).length=n:=hG.row.1
   refine⟨fun w=>by kernel_rfl,133,.pointer (some ⟨L,0,none⟩),fun w=>by kernel_rfl,fun x w=>by kernel_rfl,fun w' hb oa on oc xs hown hm hbs=>?_⟩
   rw[hln] at hm ⊢
   exact leafSlots_g hG hP w' hb oa on oc xs hown hm hbs
structure XSt (w wr:World) (N:Nat) (bx xs:Array Value):Prop where
 bn:wr.heap[N]?=some (.cells bx 49)
 xn:wr.heap[N+1]?=some (.cells xs 103)
 bel:Below N w wr
theorem XSt.lt {w wr:World} {N:Nat} {bx xs:Array Value} (h:XSt w wr N bx xs):N+1<wr.heap.size:=(Array.getElem?_eq_some_iff.1 h.xn).1
theorem XSt.fr {S:Nat->Prop} {w wr w1:World} {N:Nat} {bx xs:Array Value} (h:XSt w wr N bx xs) (hf:Fr S wr w1) (hS:∀ k,k<N+2->¬ S k):XSt w w1 N bx xs :=
 ⟨(hf.block N (by have:=h.lt;omega) (hS _ (by omega))).trans h.bn,(hf.block (N+1) h.lt (hS _ (by omega))).trans h.xn,h.bel.trans ⟨hf.os,hf.tape,hf.output,hf.size,fun k hk=>hf.block k (by have:=h.lt;omega) (hS k (by omega))⟩⟩
theorem XSt.below {w wr w1:World} {N:Nat} {bx xs:Array Value} (h:XSt w wr N bx xs) (hb:Below wr.heap.size wr w1):XSt w w1 N bx xs:=h.fr (S:=fun _=>False) (Fr.of_below hb) (fun _ _ e=>e)
theorem XSt.grown {w wr w1:World} {N g:Nat} {bx xs:Array Value} (h:XSt w wr N bx xs) (hg:wr.grownBy w1 (some g)) (hl:N+2<=g):XSt w w1 N bx xs:=h.fr (S:=fun k=>k=g) (Fr.of_grown hg (fun k e=>by cases e;rfl)) (fun k hk e=>by omega)
theorem XSt.set {w wr:World} {N:Nat} {bx xs:Array Value} (h:XSt w wr N bx xs) (i:Nat) (v:Value):XSt w (wr.setCell ⟨N+1,i,none⟩ v) N bx (xs.setIfInBounds i v):=by
 have hf:=fr_setT wr (N+1) i v
 have l:=h.lt
 exact⟨(hf.block N (by omega) (by omega)).trans h.bn,heap_setT h.xn i v,h.bel.trans ⟨hf.os,hf.tape,hf.output,hf.size,fun k hk=>hf.block k (by omega) (by omega)⟩⟩
theorem own_after {w w1:World} {base e g n c:Nat} {xs:List Value} (h:w.ownsRow base e 1 (.slice (some ⟨g,0,none⟩) n c) n xs) (hk:w1.heap[g]?=w.heap[g]?):w1.ownsRow base e 1 (.slice (some ⟨g,0,none⟩) n c) n xs:=by
 refine⟨h.1,?_⟩
 rcases h.2 with ⟨e,_⟩ | ⟨g0,cap,cur,e,h1,h2,h3⟩
 ·simp at e
 ·refine .inr ⟨g0,cap,cur,e,h1,?_,h3⟩
  simp only[Value.slice.injEq,Option.some.injEq,Addr.mk.injEq] at e
  obtain⟨⟨rfl,_⟩,_⟩:=e
  rw[hk];exact h2
theorem off_rows {α:Type} {w:World} {base e g gx n c lo:Nat} {cs:α->List Value} {fit:α->Prop} {d:α} {xs:List α} (hm:∀ x,(cs x).length=1) (h:w.ownsRow base e 1 (.slice (some ⟨g,0,none⟩) n c) n (rowsOf cs xs)) (hl:xs.length=n) (hf:∀ i,i<n->fit (xs.getD i d)) (hlo:lo<=base) (hg:gx<base):Off w lo gx (fun w A B=>RowsAt w A B 1 cs fit d (some ⟨g,0,none⟩) n c xs):=by
 have hlt:=h.lt g rfl
 obtain⟨a,c',e,hr⟩:=RowsAt.of_owns (fit:=fit) (d:=d) hm h hl hf
 simp only[Value.slice.injEq] at e
 obtain⟨rfl,_,rfl⟩:=e
 refine⟨g,by omega,by omega,hlt.2,hr.1,hr.2.1,hr.2.2.1,hr.2.2.2.1,fun hn=>?_⟩
 obtain⟨b,off,e,hb,hc⟩:=hr.2.2.2.2 hn
 simp only[Option.some.injEq,Addr.mk.injEq] at e
 obtain⟨rfl,rfl,_⟩:=e
 exact⟨g,0,rfl,by omega,hc⟩
def FlatCall (C:Nat) (t:T):Prop:=∀ (w:World) (lo g c:Nat) (css0:Nat->List Value) (ts0:List TN) (ka:Option Addr) (kn kc:Nat) (va:Option Addr) (vn vc:Nat) (oa:Option Addr) (on oc:Nat) (ya:Option Addr) (yc:Nat) (css:Nat->List Value),C<=lo->FlatAt w lo g c css0 ts0->NodeX w 0 C (fun b=>b<C) t ka kn kc va vn vc oa on oc ya yc css->ts0.length+(t.flat ts0.length).length<=100000 ->
 Calls Tryz.prog 47 #[.slice (some ⟨g,0,none⟩) ts0.length c,.agg #[.bool t.leaf,.int .i64 t.page,.slice ka kn kc,.slice va vn vc,.slice oa on oc,.slice ya t.kids.length yc]] w fun e w'=>∃ g' c' css',e=.returned (.slice (some ⟨g',0,none⟩) (ts0.length+(t.flat ts0.length).length) c')∧FlatAt w' lo g' c' css' (ts0++t.flat ts0.length)∧Fr (fun k=>k=g) w w'∧(g'=g∨w.heap.size<=g')
theorem l3Flat_leaf (C:Nat) (t:T) (hl:t.leaf=true) (hsm:t.keys.length<=1000∧t.vals.length<=1000∧t.over.length<=1000):FlatCall C t:=by
 intro w lo g c css0 ts0 ka kn kc va vn vc oa on oc ya yc css hC hF hX hbd
 have HFL:Hid (t.flat ts0.length=[⟨true,t.page,t.keys,t.vals,t.over,[]⟩]):=by show _=_;rw[T.flat_eq,if_pos hl]
 rw[HFL.out] at hbd ⊢
 have hp:=hX.page
 obtain⟨N,hN⟩:∃ N,w.heap.size=N:=⟨_,rfl⟩
 have hgl:=hF.lt
 have hCN:C<=N:=by omega
 have hK:StrsAt w 0 C ka kn kc t.keys:=hX.keys
 have hV:StrsAt w 0 C va vn vc t.vals:=hX.vals
 have hO:IntsAt w 0 C oa on oc t.over:=hX.over
 have hkn:kn<=1000:=by have:=hK.1;omega
 have hvn:vn<=1000:=by have:=hV.1;omega
 have hon:on<=1000:=by have:=hO.1;omega
 have b1:=(Below.refl w.heap.size w).alloc (Nat.le_refl _) (.cells #[.bool true,.int .i64 t.page,.slice ka kn kc,.slice va vn vc,.slice oa on oc,.slice ya t.kids.length yc] 49)
 have b2:=(Below.refl (w.alloc (.cells #[.bool true,.int .i64 t.page,.slice ka kn kc,.slice va vn vc,.slice oa on oc,.slice ya t.kids.length yc] 49)).heap.size _).alloc (Nat.le_refl _) (.cells #[.bool true,.int .i64 t.page,.slice none 0 0,.slice none 0 0,.slice none 0 0,.slice none 0 0] 103)
 have s1:(w.alloc (.cells #[.bool true,.int .i64 t.page,.slice ka kn kc,.slice va vn vc,.slice oa on oc,.slice ya t.kids.length yc] 49)).heap.size=N+1:=by simp[hN]
 have X1:XSt w ((w.alloc (.cells #[.bool true,.int .i64 t.page,.slice ka kn kc,.slice va vn vc,.slice oa on oc,.slice ya t.kids.length yc] 49)).alloc (.cells #[.bool true,.int .i64 t.page,.slice none 0 0,.slice none 0 0,.slice none 0 0,.slice none 0 0] 103)) N #[.bool true,.int .i64 t.page,.slice ka kn kc,.slice va vn vc,.slice oa on oc,.slice ya t.kids.length yc] #[.bool true,.int .i64 t.page,.slice none 0 0,.slice none 0 0,.slice none 0 0,.slice none 0 0]:=by
  refine⟨(b2.block N (by omega)).trans (hN ▸ heap_alloc_new w _),by rw[<-s1];exact heap_alloc_new _ _,?_⟩
  exact (hN ▸ b1:Below N w _).trans (b2.mono (by omega))
 have z1:((w.alloc (.cells #[.bool true,.int .i64 t.page,.slice ka kn kc,.slice va vn vc,.slice oa on oc,.slice ya t.kids.length yc] 49)).alloc (.cells #[.bool true,.int .i64 t.page,.slice none 0 0,.slice none 0 0,.slice none 0 0,.slice none 0 0] 103)).heap.size=N+2:=by simp[hN]
 rw[hl]
 obtain⟨m0,hm0⟩:∃ m0,ts0.length=m0:=⟨_,rfl⟩
 have HM0:Hid (ts0.length=m0):=hm0
 have HF:Hid (FlatAt w lo g c css0 ts0):=hF
 rw[hm0] at hbd ⊢
 have hmb:m0+1<=100000:=by simpa using hbd
 clear hbd hX hF b1 b2 hm0
 obtain⟨yn,hyn⟩:∃ yn,yn=t.kids.length:=⟨_,rfl⟩
 rw[<-hyn] at X1 s1 z1 ⊢
 clear hyn
 obtain⟨p,hpp⟩:∃ p,p=t.page:=⟨_,rfl⟩
 rw[<-hpp] at X1 s1 z1 hp HFL ⊢
 clear hpp
 have HK:Hid (StrsAt w 0 C ka kn kc t.keys):=hK
 have HV:Hid (StrsAt w 0 C va vn vc t.vals):=hV
 have HO:Hid (IntsAt w 0 C oa on oc t.over):=hO
 clear hK hV hO hsm
 obtain⟨is,his,hs0,hs1,hs2⟩:=info_parts info_string
 obtain⟨ii,hii,hi0,hi1,hi2⟩:=info_parts info_int64
 obtain⟨ix,hix,hx0,hx1,hx2⟩:=info_parts info_TNodeT
 go_enter Tryz.func47,Tryz.ntmps47
 go_upto_region 2 with fail
 generalize ((w.alloc (.cells #[.bool true,.int .i64 p,.slice ka kn kc,.slice va vn vc,.slice oa on oc,.slice ya yn yc] 49)).alloc (.cells #[.bool true,.int .i64 p,.slice none 0 0,.slice none 0 0,.slice none 0 0,.slice none 0 0] 103))=W1 at X1 z1 ⊢
 have X2:=X1.below ((Below.refl _ _).alloc (Nat.le_refl _) (.cells #[] 9))
 have e2:=owns_empty W1 9 1
 have z2:(W1.alloc (.cells #[] 9)).heap.size=N+3:=by simp[z1]
 rw[z1] at e2
 obtain⟨n0,n1,n2,n3,n4,n5⟩:=box6 X1.bn
 have l0:N<W1.heap.size:=by omega
 have k2:StrsAt (W1.alloc (.cells #[] 9)) 0 C ka kn kc t.keys:=HK.out.below (X2.bel.mono hCN)
 go_upto_region 4 with (at_builtin;refine wpList_append_rowsT _ rfl _ _ 46 rfl (N+2) 9 is _ 16 Tryz.underlying46 his hs0 hs1 hs2 rfl (N+2) 0 0 [] rfl e2 sc1 one_str1 rfl k2 (by unfold maxLen;omega) (by omega) (by omega) ?_;intro g1 c1 w3 o1 gr1;have X3:=X2.grown gr1 (Nat.le_refl _);have fx3:=thawT X3.xn;obtain⟨x0,x1,x2,x3,x4,x5⟩:=box6 X3.xn;have lx:=X3.lt)
 have X4:=X3.set 2 (.slice (some ⟨g1,0,none⟩) kn c1)
 have hg1:=o1.lt g1 rfl
 have r1:(w3.setCell ⟨N+1,2,none⟩ (.slice (some ⟨g1,0,none⟩) kn c1)).ownsRow (N+2) 9 1 (.slice (some ⟨g1,0,none⟩) kn c1) kn (rowsOf strCells t.keys):=own_after (by simpa using o1) ((fr_setT w3 (N+1) 2 _).block g1 hg1.2 (by omega))
 have f4:Fr (fun k=>N<=k) w (w3.setCell ⟨N+1,2,none⟩ (.slice (some ⟨g1,0,none⟩) kn c1)):=⟨X4.bel.os,X4.bel.tape,X4.bel.output,X4.bel.size,fun k _ hk=>X4.bel.block k (by omega)⟩
 simp only[List.setIfInBounds_toArray,List.set_cons_succ,List.set_cons_zero] at X4
 generalize w3.setCell ⟨N+1,2,none⟩ (.slice (some ⟨g1,0,none⟩) kn c1)=W4 at X4 r1 ⊢
 clear X1 X2 X3 z1 z2 e2 k2 o1 gr1 fx3 x0 x1 x2 x3 x4 x5 lx n0 n1 n2 n3 n4 n5 l0 hg1 f4
 have hg1:=r1.lt g1 rfl
 have X5:=X4.below ((Below.refl _ _).alloc (Nat.le_refl _) (.cells #[] 9))
 have e2:=owns_empty W4 9 1
 obtain⟨n0,n1,n2,n3,n4,n5⟩:=box6 X4.bn
 have l0:N<W4.heap.size:=by have:=X4.lt;omega
 have l9:=X4.lt
 have k2:StrsAt (W4.alloc (.cells #[] 9)) 0 C va vn vc t.vals:=HV.out.below (X5.bel.mono hCN)
 have z2:(W4.alloc (.cells #[] 9)).heap.size=W4.heap.size+1:=by simp
 go_upto_region 5 with (at_builtin;refine wpList_append_rowsT _ rfl _ _ 46 rfl W4.heap.size 9 is _ 16 Tryz.underlying46 his hs0 hs1 hs2 rfl W4.heap.size 0 0 [] rfl e2 sc1 one_str1 rfl k2 (by unfold maxLen;omega) (by omega) (by omega) ?_;intro g2 c2 w3 o1 gr1;have X3:=X5.grown gr1 (by omega);have fx3:=thawT X3.xn;obtain⟨x0,x1,x2,x3,x4,x5⟩:=box6 X3.xn;have lx:=X3.lt)
 have X6:=X3.set 3 (.slice (some ⟨g2,0,none⟩) vn c2)
 have hg2:=o1.lt g2 rfl
 have hs3:=gr1.size
 have q1:(w3.setCell ⟨N+1,3,none⟩ (.slice (some ⟨g2,0,none⟩) vn c2)).ownsRow (N+2) 9 1 (.slice (some ⟨g1,0,none⟩) kn c1) kn (rowsOf strCells t.keys):=own_after r1 (((fr_setT w3 (N+1) 3 _).block g1 (by omega) (by omega)).trans ((gr1.block g1 (by omega) (by simp;omega)).trans (((Below.refl _ _).alloc (Nat.le_refl _) (.cells #[] 9)).block g1 hg1.2)))
 have q2:(w3.setCell ⟨N+1,3,none⟩ (.slice (some ⟨g2,0,none⟩) vn c2)).ownsRow (N+2) 9 1 (.slice (some ⟨g2,0,none⟩) vn c2) vn (rowsOf strCells t.vals):=owns_base (own_after (by simpa using o1) ((fr_setT w3 (N+1) 3 _).block g2 hg2.2 (by omega))) (by omega)
 simp only[List.setIfInBounds_toArray,List.set_cons_succ,List.set_cons_zero] at X6
 generalize w3.setCell ⟨N+1,3,none⟩ (.slice (some ⟨g2,0,none⟩) vn c2)=W6 at X6 q1 q2 ⊢
 clear X3 X4 X5 r1 z2 e2 k2 o1 gr1 fx3 x0 x1 x2 x3 x4 x5 lx n0 n1 n2 n3 n4 n5 l0 hg1 hg2 hs3 l9
 have hg1:=q1.lt g1 rfl
 have hg2:=q2.lt g2 rfl
 have X5:=X6.below ((Below.refl _ _).alloc (Nat.le_refl _) (.cells #[] 2))
 have e2:=owns_empty W6 2 1
 obtain⟨n0,n1,n2,n3,n4,n5⟩:=box6 X6.bn
 have l0:N<W6.heap.size:=by have:=X6.lt;omega
 have l9:=X6.lt
 have k2:IntsAt (W6.alloc (.cells #[] 2)) 0 C oa on oc t.over:=HO.out.below (X5.bel.mono hCN)
 have z2:(W6.alloc (.cells #[] 2)).heap.size=W6.heap.size+1:=by simp
 go_upto_region 6 with (at_builtin;refine wpList_append_rowsT _ rfl _ _ 25 rfl W6.heap.size 2 ii _ 8 Tryz.underlying25 hii hi0 hi1 hi2 rfl W6.heap.size 0 0 [] rfl e2 ic1 one_int1 rfl k2 (by unfold maxLen;omega) (by omega) (by omega) ?_;intro g3 c3 w3 o1 gr1;have X3:=X5.grown gr1 (by omega);have fx3:=thawT X3.xn;obtain⟨x0,x1,x2,x3,x4,x5⟩:=box6 X3.xn;have lx:=X3.lt)
 have X7:=X3.set 4 (.slice (some ⟨g3,0,none⟩) on c3)
 have hg3:=o1.lt g3 rfl
 have hs3:=gr1.size
 have hkeep:∀ q,q<W6.heap.size->N+2<=q->(w3.setCell ⟨N+1,4,none⟩ (.slice (some ⟨g3,0,none⟩) on c3)).heap[q]?=W6.heap[q]?:=fun q h1 h2=>((fr_setT w3 (N+1) 4 _).block q (by omega) (by omega)).trans ((gr1.block q (by omega) (by simp;omega)).trans (((Below.refl _ _).alloc (Nat.le_refl _) (.cells #[] 2)).block q h1))
 have r1:(w3.setCell ⟨N+1,4,none⟩ (.slice (some ⟨g3,0,none⟩) on c3)).ownsRow (N+2) 9 1 (.slice (some ⟨g1,0,none⟩) kn c1) kn (rowsOf strCells t.keys):=own_after q1 (hkeep g1 hg1.2 hg1.1)
 have r2:(w3.setCell ⟨N+1,4,none⟩ (.slice (some ⟨g3,0,none⟩) on c3)).ownsRow (N+2) 9 1 (.slice (some ⟨g2,0,none⟩) vn c2) vn (rowsOf strCells t.vals):=own_after q2 (hkeep g2 hg2.2 hg2.1)
 have r3:(w3.setCell ⟨N+1,4,none⟩ (.slice (some ⟨g3,0,none⟩) on c3)).ownsRow (N+2) 2 1 (.slice (some ⟨g3,0,none⟩) on c3) on (rowsOf intCells t.over):=owns_base (own_after (by simpa using o1) ((fr_setT w3 (N+1) 4 _).block g3 hg3.2 (by omega))) (by omega)
 simp only[List.setIfInBounds_toArray,List.set_cons_succ,List.set_cons_zero] at X7
 generalize w3.setCell ⟨N+1,4,none⟩ (.slice (some ⟨g3,0,none⟩) on c3)=W7 at X7 r1 r2 r3 ⊢
 clear X3 X6 X5 q1 q2 z2 e2 k2 o1 gr1 fx3 x0 x1 x2 x3 x4 x5 lx n0 n1 n2 n3 n4 n5 l0 hg1 hg2 hg3 hs3 l9 hkeep
 have hlt:=X7.lt
 have F7:FlatAt W7 lo g c css0 ts0:=HF.out.fr (S:=fun k=>N<=k) ⟨X7.bel.os,X7.bel.tape,X7.bel.output,X7.bel.size,fun k _ hk=>X7.bel.block k (by omega)⟩ (fun k _ hk=>by omega)
 have N7:FNode W7 lo g ⟨true,p,t.keys,t.vals,t.over,[]⟩ [.bool true,.int .i64 p,.slice (some ⟨g1,0,none⟩) kn c1,.slice (some ⟨g2,0,none⟩) vn c2,.slice (some ⟨g3,0,none⟩) on c3,.slice none 0 0] :=
  ⟨_,_,_,_,_,_,_,_,_,none,0,0,rfl,hp,off_rows sc1 r1 HK.out.1 HK.out.2.2.2.1 (by omega) (by omega),off_rows sc1 r2 HV.out.1 HV.out.2.2.2.1 (by omega) (by omega),off_rows ic1 r3 HO.out.1 HO.out.2.2.2.1 (by omega) (by omega),⟨N,by omega,by omega,by omega,rfl,Nat.le_refl _,Nat.zero_le _,fun i hi=>absurd hi (Nat.not_lt_zero _),fun h=>absurd h (Nat.lt_irrefl _)⟩⟩
 have ab:=(Below.refl W7.heap.size W7).alloc (Nat.le_refl _) (.cells #[.bool true,.int .i64 p,.slice (some ⟨g1,0,none⟩) kn c1,.slice (some ⟨g2,0,none⟩) vn c2,.slice (some ⟨g3,0,none⟩) on c3,.slice none 0 0] 103)
 have F8:=F7.below ab
 have N8:=N7.keep (w':=(W7.alloc (.cells #[.bool true,.int .i64 p,.slice (some ⟨g1,0,none⟩) kn c1,.slice (some ⟨g2,0,none⟩) vn c2,.slice (some ⟨g3,0,none⟩) on c3,.slice none 0 0] 103))) (fun k _ h2 _=>ab.block k h2) (.inl rfl) ab.size
 obtain⟨x0,x1,x2,x3,x4,x5⟩:=box6 X7.xn
 have hrow:=F8.row
 rw[HM0.out] at hrow
 have hcells:=cell_six_new W7 (.bool true) (.int .i64 p) (.slice (some ⟨g1,0,none⟩) kn c1) (.slice (some ⟨g2,0,none⟩) vn c2) (.slice (some ⟨g3,0,none⟩) on c3) (.slice none 0 0) 103
 have HBW:Hid (Below N w W7):=X7.bel
 have HEND:Hid (∀ g' c' w4,w4.ownsRow lo 103 6 (.slice (some ⟨g',0,none⟩) (m0+1) c') (m0+1) (rowsC css0 m0++[.bool true,.int .i64 p,.slice (some ⟨g1,0,none⟩) kn c1,.slice (some ⟨g2,0,none⟩) vn c2,.slice (some ⟨g3,0,none⟩) on c3,.slice none 0 0])->(W7.alloc (.cells #[.bool true,.int .i64 p,.slice (some ⟨g1,0,none⟩) kn c1,.slice (some ⟨g2,0,none⟩) vn c2,.slice (some ⟨g3,0,none⟩) on c3,.slice none 0 0] 103)).grownBy w4 (some g)->(g'=g∨(W7.alloc (.cells #[.bool true,.int .i64 p,.slice (some ⟨g1,0,none⟩) kn c1,.slice (some ⟨g2,0,none⟩) vn c2,.slice (some ⟨g3,0,none⟩) on c3,.slice none 0 0] 103)).heap.size<=g')->FlatAt w4 lo g' c' (fun i=>if i=ts0.length then [.bool true,.int .i64 p,.slice (some ⟨g1,0,none⟩) kn c1,.slice (some ⟨g2,0,none⟩) vn c2,.slice (some ⟨g3,0,none⟩) on c3,.slice none 0 0] else css0 i) (ts0++[⟨true,p,t.keys,t.vals,t.over,[]⟩])∧Fr (fun k=>k=g) w w4∧(g'=g∨w.heap.size<=g')):=by
  intro g' c' w4 h1 h2 h3
  rw[<-HM0.out] at h1
  have hb:=HBW.out
  refine⟨F8.push rfl N8 h1 h2 h3,?_,h3.imp id (fun e=>Nat.le_trans hb.size (Nat.le_trans ab.size e))⟩
  exact⟨h2.os.trans (ab.os.trans hb.os),h2.tape.trans (ab.tape.trans hb.tape),h2.output.trans (ab.output.trans hb.output),Nat.le_trans hb.size (Nat.le_trans ab.size h2.size),fun k hk1 hk2=>(h2.block k (by have:=hb.size;have:=ab.size;omega) (by simpa using hk2)).trans ((ab.block k (by have:=hb.size;omega)).trans (hb.block k (by omega)))⟩
 have hlo:lo<=(W7.alloc (.cells #[.bool true,.int .i64 p,.slice (some ⟨g1,0,none⟩) kn c1,.slice (some ⟨g2,0,none⟩) vn c2,.slice (some ⟨g3,0,none⟩) on c3,.slice none 0 0] 103)).heap.size:=by have:=ab.size;omega
 clear F7 N7 F8 N8 ab r1 r2 r3 X7
 go_wp2_with (at_builtin;refine wpList_append_nodeT _ rfl _ _ 27 rfl lo 103 ix _ 6 112 Tryz.underlying27 hix hx0 hx1 hx2 rfl (by decide) g m0 c _ rfl hrow ⟨W7.heap.size,0,none⟩ 1 [.bool true,.int .i64 p,.slice (some ⟨g1,0,none⟩) kn c1,.slice (some ⟨g2,0,none⟩) vn c2,.slice (some ⟨g3,0,none⟩) on c3,.slice none 0 0] rfl rfl hcells (by simp[Value.oneCell']) (by unfold maxLen;omega) (by omega) hlo ?_;intro g' c' w4 h1 h2 h3;obtain⟨R1,R2,R3⟩:=HEND.out g' c' w4 h1 h2 h3;clear h1 h2 h3 HEND hrow hcells)
 go_ret
 exact⟨g',c',_,rfl,R1,R2,R3⟩
structure FIn (w wr:World) (N:Nat) (bx:Array Value) (p:Int) (ka:Option Addr) (kc:Nat) (ya:Option Addr) (yc:Nat) (ks:List ByteArray) (ys:List Int):Prop where
 x:XSt w wr N bx #[.bool false,.int .i64 p,.slice ka ks.length kc,.slice none 0 0,.slice none 0 0,.slice ya ys.length yc]
 rk:wr.ownsRow (N+2) 9 1 (.slice ka ks.length kc) ks.length (rowsOf strCells ks)
 ry:wr.ownsRow (N+2) 2 1 (.slice ya ys.length yc) ys.length (rowsOf intCells ys)
 ne:∀ g,(Value.slice ka ks.length kc).ownBlock=some g->(Value.slice ya ys.length yc).ownBlock=some g->False
theorem FIn.below {w wr w1:World} {N:Nat} {bx:Array Value} {p:Int} {ka:Option Addr} {kc:Nat} {ya:Option Addr} {yc:Nat} {ks:List ByteArray} {ys:List Int} (h:FIn w wr N bx p ka kc ya yc ks ys) (hb:Below wr.heap.size wr w1):FIn w w1 N bx p ka kc ya yc ks ys :=
 ⟨h.x.below hb,owns_below h.rk hb,owns_below h.ry hb,h.ne⟩
theorem grown_fr {w w':World} {row:Option Nat} (h:w.grownBy w' row):Fr (fun k=>some k=row) w w':=⟨h.os,h.tape,h.output,h.size,fun k hk hn=>h.block k hk hn⟩
theorem FIn.pushY {w wr w4:World} {N:Nat} {bx:Array Value} {p:Int} {ka:Option Addr} {kc:Nat} {ya:Option Addr} {yc:Nat} {ks:List ByteArray} {ys:List Int} (h:FIn w wr N bx p ka kc ya yc ks ys) {y:Int} {v':Value} (hown:w4.ownsRow (N+2) 2 1 v' (ys.length+1) (rowsOf intCells ys++[.int .i64 y])) (hgr:wr.grownBy w4 (Value.slice ya ys.length yc).ownBlock) (hat:v'.ownBlock=(Value.slice ya ys.length yc).ownBlock∨∀ g,v'.ownBlock=some g->wr.heap.size<=g) :
  ∃ ya' yc',v'=.slice ya' (ys.length+1) yc'∧FIn w (w4.setCell ⟨N+1,5,none⟩ v') N bx p ka kc ya' yc' ks (ys++[y])∧w4.heap[N+1]?=some (.cells #[.bool false,.int .i64 p,.slice ka ks.length kc,.slice none 0 0,.slice none 0 0,.slice ya ys.length yc] 103):=by
 obtain⟨ya',yc',rfl⟩:=own_shape hown
 have X4:=h.x.fr (grown_fr hgr) (fun k hk e=>by have:=(h.ry.lt k e.symm).1;omega)
 have X5:=X4.set 5 (.slice ya' (ys.length+1) yc')
 have hz:(ys++[y]).length=ys.length+1:=by simp
 refine⟨ya',yc',rfl,⟨?_,?_,?_,?_⟩,X4.xn⟩
 ·rw[hz];simpa using X5
 ·refine owns_fr (owns_fr h.rk (grown_fr hgr) (fun g hg e=>h.ne g hg e.symm)) (fr_setT w4 (N+1) 5 _) (fun g hg e=>?_)
  have:=(h.rk.lt g hg).1
  omega
 ·rw[hz,rowsOf_append]
  exact owns_fr hown (fr_setT w4 (N+1) 5 _) (fun g hg e=>by have:=(hown.lt g hg).1;omega)
 ·intro g h1 h2
  rw[hz] at h2
  rcases hat with e | e
  ·rw[e] at h2;exact h.ne g h1 h2
  ·have:=e g h2
   have:=(h.rk.lt g h1).2
   omega
theorem FIn.pushK {w wr w4:World} {N:Nat} {bx:Array Value} {p:Int} {ka:Option Addr} {kc:Nat} {ya:Option Addr} {yc:Nat} {ks:List ByteArray} {ys:List Int} (h:FIn w wr N bx p ka kc ya yc ks ys) {y:ByteArray} {v':Value} (hown:w4.ownsRow (N+2) 9 1 v' (ks.length+1) (rowsOf strCells ks++[.string y])) (hgr:wr.grownBy w4 (Value.slice ka ks.length kc).ownBlock) (hat:v'.ownBlock=(Value.slice ka ks.length kc).ownBlock∨∀ g,v'.ownBlock=some g->wr.heap.size<=g) :
  ∃ ka' kc',v'=.slice ka' (ks.length+1) kc'∧FIn w (w4.setCell ⟨N+1,2,none⟩ v') N bx p ka' kc' ya yc (ks++[y]) ys∧w4.heap[N+1]?=some (.cells #[.bool false,.int .i64 p,.slice ka ks.length kc,.slice none 0 0,.slice none 0 0,.slice ya ys.length yc] 103):=by
 obtain⟨ka',kc',rfl⟩:=own_shape hown
 have X4:=h.x.fr (grown_fr hgr) (fun k hk e=>by have:=(h.rk.lt k e.symm).1;omega)
 have X5:=X4.set 2 (.slice ka' (ks.length+1) kc')
 have hz:(ks++[y]).length=ks.length+1:=by simp
 refine⟨ka',kc',rfl,⟨?_,?_,?_,?_⟩,X4.xn⟩
 ·rw[hz];simpa using X5
 ·rw[hz,rowsOf_append]
  exact owns_fr hown (fr_setT w4 (N+1) 2 _) (fun g hg e=>by have:=(hown.lt g hg).1;omega)
 ·refine owns_fr (owns_fr h.ry (grown_fr hgr) (fun g hg e=>h.ne g e.symm hg)) (fr_setT w4 (N+1) 2 _) (fun g hg e=>?_)
  have:=(h.ry.lt g hg).1
  omega
 ·intro g h1 h2
  rw[hz] at h1
  rcases hat with e | e
  ·rw[e] at h1;exact h.ne g h1 h2
  ·have:=e g h1
   have:=(h.ry.lt g h2).2
   omega
theorem starts_take (s:Nat) (ns:List Nat) (j:Nat) (hj:j<ns.length):(startsN s ns).take (j+1)=(startsN s ns).take j++[((s+(ns.take j).sum:Nat):Int)]:=by
 induction ns generalizing s j with
 | nil=>simp at hj
 | cons a r ih =>
  cases j with
  | zero=>simp[startsN]
  | succ j =>
   have:=ih (s+a) j (by simpa using hj)
   simp only[startsN,List.take_succ_cons,List.sum_cons,List.cons_append]
   rw[this]
   congr 3
   push_cast
   omega
theorem tail_take {α:Type} (l:List α) (j:Nat) (hj:j<l.length) (h0:0<j):(l.take (j+1)).tail=(l.take j).tail++[l[j]]:=by
 rw[List.take_succ_eq_append_getElem hj,List.tail_append_of_ne_nil]
 intro e
 have:=congrArg List.length e
 simp only[List.length_take,List.length_nil] at this
 omega
theorem offs_take (s:Nat) (l:List (Nat->List TN)) (j:Nat) (hj:j<l.length):offs s (l.take (j+1))=offs s (l.take j)++l[j] (s+(offs s (l.take j)).length):=by
 induction l generalizing s j with
 | nil=>simp at hj
 | cons a r ih =>
  cases j with
  | zero=>simp[offs]
  | succ j =>
   have:=ih (s+(a s).length) j (by simpa using hj)
   simp only[List.take_succ_cons,offs,List.getElem_cons_succ,List.append_assoc]
   rw[this,List.length_append,Nat.add_assoc]
theorem offs_take_le (s:Nat) (l:List (Nat->List TN)) (j:Nat):(offs s (l.take j)).length<=(offs s l).length:=by
 induction l generalizing s j with
 | nil=>simp
 | cons a r ih =>
  cases j with
  | zero=>simp[offs]
  | succ j =>
   have:=ih (s+(a s).length) j
   simp only[List.take_succ_cons,offs,List.length_append]
   omega
theorem off_any {α:Type} {w:World} {base e gx n c lo:Nat} {a:Option Addr} {cs:α->List Value} {fit:α->Prop} {d:α} {xs:List α} (hm:∀ x,(cs x).length=1) (h:w.ownsRow base e 1 (.slice a n c) n (rowsOf cs xs)) (hl:xs.length=n) (hf:∀ i,i<n->fit (xs.getD i d)) (hlo:lo<=base) (hg:gx<base) (hb:base<w.heap.size):Off w lo gx (fun w A B=>RowsAt w A B 1 cs fit d a n c xs):=by
 rcases h.2 with ⟨e,e2⟩ | ⟨g,cap,cur,e,_⟩
 ·simp only[Value.slice.injEq] at e
  obtain⟨rfl,rfl,rfl⟩:=e
  exact⟨base,hlo,by omega,hb,hl,Nat.le_refl _,Nat.zero_le _,hf,fun h=>absurd h (Nat.lt_irrefl _)⟩
 ·simp only[Value.slice.injEq] at e
  obtain⟨rfl,_,rfl⟩:=e
  exact off_rows hm h hl hf hlo hg
end Go.Proofs.YtkhglgalbifcnaaGreat
