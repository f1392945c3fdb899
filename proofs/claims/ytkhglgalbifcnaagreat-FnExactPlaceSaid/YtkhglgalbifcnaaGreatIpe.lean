import Derived.Test.YtkhglgalbifcnaaGreatGAA
import Derived.Test.YtkhglgalbifcnaaGreatGBN
namespace Go.Proofs.YtkhglgalbifcnaaGreat
open Go.RowKit
set_option linter.unusedVariables false
set_option linter.unusedSimpArgs false
set_option maxRecDepth 100000
theorem owns_curI {w w':World} {G base e size n c:Nat} {xs:List Value} {cur:Array Value} {j:Nat} {v:Value} (h:w.ownsRow base e size (.slice (some ⟨G,0,none⟩) n c) n xs) (hk:w.heap[G]?=some (.cells cur e)) (hk':w'.heap[G]?=some (.cells (cur.setIfInBounds j v) e)):w'.ownsRow base e size (.slice (some ⟨G,0,none⟩) n c) n (xs.set j v):=by
 refine⟨by rw[List.length_set];exact h.1,?_⟩
 rcases h.2 with ⟨e1,_⟩ | ⟨g,cap,cr,e1,h1,h2,h3,h4,h5,h6⟩
 ·simp at e1
 ·simp only[Value.slice.injEq,Option.some.injEq,Addr.mk.injEq,and_true,true_and] at e1
  obtain⟨rfl,rfl⟩:=e1
  rw[hk] at h2
  simp only[Option.some.injEq,Obj.cells.injEq,and_true] at h2
  subst h2
  refine .inr ⟨G,c,_,rfl,h1,hk',h3,h4,by simpa using h5,?_⟩
  rw[Array.toList_setIfInBounds,List.take_set,h6]
def slz (t:T) (ol:List Int):List (ByteArray × ByteArray × Int):=t.keys.zip (t.vals.zip ol)
theorem rows_set2:∀ (k v:List ByteArray) (ol:List Int) (i:Nat) (x:Int),v.length=k.length->ol.length=k.length->rowsOf slCells (k.zip (v.zip (ol.set i x)))=(rowsOf slCells (k.zip (v.zip ol))).set (i*3+2) (.int .i64 x)
 | [],_,_,i,x,_,_=>by simp[rowsOf]
 | a::k,[],_,i,x,h,_=>by simp at h
 | a::k,b::v,[],i,x,_,h=>by simp at h
 | a::k,b::v,c::ol,0,x,_,_=>by simp[rowsOf,slCells]
 | a::k,b::v,c::ol,i+1,x,h1,h2=>by
  have ih:=rows_set2 k v ol i x (by simpa using h1) (by simpa using h2)
  simp only[rowsOf] at ih
  rw[List.set_cons_succ]
  simp only[List.zip_cons_cons,rowsOf,List.flatMap_cons,slCells,List.cons_append,List.nil_append]
  rw[show (i+1)*3+2=i*3+2+1+1+1 by omega]
  simp only[List.set_cons_succ]
  rw[ih]
theorem slot_cells {t:T} {ol:List Int} {n i:Nat} (h1:t.keys.length=n) (h2:t.vals.length=n) (h3:ol.length=n) (hi:i<n):(rowsOf slCells (slz t ol))[i*3]?=some (.string (t.keys.getD i ByteArray.empty))∧(rowsOf slCells (slz t ol))[i*3+1]?=some (.string (t.vals.getD i ByteArray.empty))∧(rowsOf slCells (slz t ol))[i*3+2]?=some (.int .i64 (ol.getD i 0)):=by
 have hl:i<(slz t ol).length:=by simp[slz];omega
 have hg:(slz t ol).getD i (ByteArray.empty,ByteArray.empty,0)=(t.keys.getD i ByteArray.empty,t.vals.getD i ByteArray.empty,ol.getD i 0):=by
  unfold slz
  rw[zip_getDP _ _ _ _ _ (by omega) (by simp;omega),zip_getDP _ _ _ _ _ (by omega) (by omega)]
 have g:=fun j hj=>rowsOf_get (cs:=slCells) (m:=3) sl3 (ByteArray.empty,ByteArray.empty,0) (slz t ol) i j hl hj
 rw[hg] at g
 exact⟨by have:=g 0 (by omega);simpa[slCells] using this,by have:=g 1 (by omega);simpa[slCells] using this,by have:=g 2 (by omega);simpa[slCells] using this⟩
theorem ov_snoc (l:List (ByteArray × Int)) (v:ByteArray) (o:Int) (s:PSt):overP (l++[(v,o)]) s=((overP l s).1++[ovN v o (overP l s).2],ovS v o (overP l s).2):=by
 rw[over_snoc]
 rfl
theorem over_len:∀ (l:List (ByteArray × Int)) (s:PSt),(∀ x ∈ l,x.1.size<=400)->(overP l s).2.log.length<=s.log.length+5*l.length
 | [],s,_=>by simp[overP]
 | x::r,s,h=>by
  have hx:=h x (by simp)
  have hr:∀ y ∈ r,y.1.size<=400:=fun y hy=>h y (by simp[hy])
  rw[overP]
  split
  ·have h1:=over_len r (valP x.1 s).2 hr
   rw[val_log] at h1
   simp only[List.length_cons]
   omega
  ·have h1:=over_len r s hr
   simp only[List.length_cons]
   omega
structure LQ (w wr:World) (P:Nat) (Z Zi Pn:Nat->Prop) (tx:Int) (t:T) (L:Nat) (a:Option Addr) (n c:Nat) (si:PSt) (ol:List Int) (ea:Option Addr) (em ec:Nat) (es:List PE):Prop where
 q:QW wr P Zi tx si
 box:wr.heap[L]?=some (.cells #[.int .i64 0,.slice a n c] 142)
 row:wr.ownsRow 0 134 3 (.slice a n c) n (rowsOf slCells (slz t ol))
 pb:wr.heap[w.heap.size]?=some (.cells #[.int .i64 3,.int .i64 0,.int .i64 0,.int .i64 0,.int .i64 0,.slice none 0 0,.slice ea em ec,.int .i64 0,.string ⟨#[]⟩] 93)
 er:wr.ownsRow (w.heap.size+1) 98 4 (.slice ea em ec) em (rowsOf entCells es)
 ne:∀ g,(Value.slice ea em ec).ownBlock=some g->¬ Zi g
 nN:¬ Zi w.heap.size
 zi:∀ g,Zi g->Z g∨w.heap.size<=g
 fr:Fr (fun g=>Z g∨Pn g) w wr
theorem LQ.below {w wr w1:World} {P:Nat} {Z Zi Pn:Nat->Prop} {tx:Int} {t:T} {L:Nat} {a:Option Addr} {n c:Nat} {si:PSt} {ol:List Int} {ea:Option Addr} {em ec:Nat} {es:List PE} (h:LQ w wr P Z Zi Pn tx t L a n c si ol ea em ec es) (hb:Below wr.heap.size wr w1):LQ w w1 P Z Zi Pn tx t L a n c si ol ea em ec es :=
 ⟨h.q.below hb,(hb.block L (Array.getElem?_eq_some_iff.1 h.box).1).trans h.box,owns_below h.row hb,(hb.block _ (Array.getElem?_eq_some_iff.1 h.pb).1).trans h.pb,owns_below h.er hb,h.ne,h.nN,h.zi,h.fr.trans (Fr.of_below hb)⟩
theorem LQ.slot {w wr w1:World} {P:Nat} {Z Zi Z1 Pn:Nat->Prop} {tx:Int} {t:T} {L G:Nat} {n c:Nat} {si s1:PSt} {ol:List Int} {ea:Option Addr} {em ec:Nat} {es:List PE} {cur:Array Value} {i:Nat} {x:Int} (h:LQ w wr P Z Zi Pn tx t L (some ⟨G,0,none⟩) n c si ol ea em ec es) (hPn:∀ g,Pn g->g<w.heap.size∧¬ Z g) (hPL:Pn L) (hPG:Pn G) (hLG:L≠G) (hk:wr.heap[G]?=some (.cells cur 134)) (hl1:t.vals.length=t.keys.length) (hl2:ol.length=t.keys.length)
  (hq:QW w1 P Z1 tx s1) (hk1:w1.heap[G]?=some (.cells (cur.setIfInBounds (i*3+2) (.int .i64 x)) 134)) (hf:Fr (fun g=>Zi g∨g=G) wr w1) (hz:∀ g,Z1 g->Zi g∨wr.heap.size<=g):LQ w w1 P Z Z1 Pn tx t L (some ⟨G,0,none⟩) n c s1 (ol.set i x) ea em ec es:=by
 have lN:=(Array.getElem?_eq_some_iff.1 h.pb).1
 have lL:=(Array.getElem?_eq_some_iff.1 h.box).1
 have nz:∀ g,Pn g->¬ Zi g:=fun g hg e=>(h.zi g e).elim (hPn g hg).2 (fun e=>by have:=(hPn g hg).1;omega)
 refine⟨hq,(hf.block L lL (fun e=>e.elim (nz L hPL) hLG)).trans h.box,?_,(hf.block _ lN (fun e=>e.elim h.nN (fun e=>by have:=(hPn G hPG).1;omega))).trans h.pb,owns_fr h.er hf (fun g e e2=>e2.elim (h.ne g e) (fun e3=>by have h1:=(h.er.lt g e).1;have h2:=(hPn G hPG).1;omega)),fun g e e2=>?_,fun e=>?_,fun g e=>?_,h.fr.up3 hf (fun g e=>?_)⟩
 ·unfold slz
  rw[rows_set2 _ _ _ _ _ hl1 hl2]
  exact owns_curI h.row hk hk1
 ·rcases hz g e2 with e3 | e3
  ·exact h.ne g e e3
  ·have:=(h.er.lt g e).2;omega
 ·rcases hz _ e with e3 | e3
  ·exact h.nN e3
  ·omega
 ·rcases hz g e with e3 | e3
  ·exact h.zi g e3
  ·exact .inr (by omega)
 ·rcases e with e | e
  ·exact (h.zi g e).elim (fun e=>.inl (.inl e)) .inr
  ·exact .inl (.inr (e ▸ hPG))
theorem LQ.ent {w wr w1:World} {P:Nat} {Z Zi Pn:Nat->Prop} {tx:Int} {t:T} {L:Nat} {a:Option Addr} {n c:Nat} {si:PSt} {ol:List Int} {ea ea':Option Addr} {em ec ec':Nat} {es:List PE} {x:PE} (h:LQ w wr P Z Zi Pn tx t L a n c si ol ea em ec es) (hPn:∀ g,Pn g->g<w.heap.size∧¬ Z g) (hPL:Pn L) (hZ:∀ g,Z g->g<w.heap.size) (ho:w1.ownsRow (w.heap.size+1) 98 4 (.slice ea' (em+1) ec') (em+1) (rowsOf entCells es++entCells x)) (hg:wr.grownBy w1 (Value.slice ea em ec).ownBlock) (hl:(Value.slice ea' (em+1) ec').ownBlock=(Value.slice ea em ec).ownBlock∨∀ g,(Value.slice ea' (em+1) ec').ownBlock=some g->wr.heap.size<=g) :
  LQ w (w1.setCell ⟨w.heap.size,6,none⟩ (.slice ea' (em+1) ec')) P Z Zi Pn tx t L a n c si ol ea' (em+1) ec' (es++[x]):=by
 have lN:=(Array.getElem?_eq_some_iff.1 h.pb).1
 have lL:=(Array.getElem?_eq_some_iff.1 h.box).1
 have G1:Fr (fun g=>(Value.slice ea em ec).ownBlock=some g) wr w1:=Fr.of_grown hg (fun g e=>e)
 have F1:=fr_setT w1 w.heap.size 6 (.slice ea' (em+1) ec')
 have hf:Fr (fun g=>(Value.slice ea em ec).ownBlock=some g∨g=w.heap.size) wr (w1.setCell ⟨w.heap.size,6,none⟩ (.slice ea' (em+1) ec')):=(G1.weak (fun g e=>.inl e)).trans (F1.weak (fun g e=>.inr e))
 have hlo:∀ g,((Value.slice ea em ec).ownBlock=some g∨g=w.heap.size)->w.heap.size<=g:=fun g e=>e.elim (fun e=>by have:=(h.er.lt g e).1;omega) (fun e=>by omega)
 have pb1:=(G1.block _ lN (fun e=>own_ne_ty h.er h.pb (by decide) e)).trans h.pb
 refine⟨h.q.fr hf (fun g hg e=>e.elim (fun e=>h.ne g e hg) (fun e=>h.nN (e ▸ hg))),(hf.block L lL (fun e=>by have h1:=hlo L e;have h2:=(hPn L hPL).1;omega)).trans h.box,owns_fr h.row hf (fun g e e2=>?_),by rw[heap_setT pb1];rfl,?_,fun g e e2=>?_,h.nN,h.zi,h.fr.up3 hf (fun g e=>.inr (hlo g e))⟩
 ·rcases e2 with e2 | e2
  ·exact rows_neI h.row h.er (by decide) e e2
  ·rw[e2] at e;exact own_ne_ty h.row h.pb (by decide) e
 ·rw[rowsOf_append]
  have:w1.ownsRow (w.heap.size+1) 98 4 (.slice ea' (em+1) ec') (em+1) (rowsOf entCells es++rowsOf entCells [x]):=by
   have e:rowsOf entCells [x]=entCells x:=by simp[rowsOf]
   rw[e];exact ho
  exact owns_fr this F1 (fun g e e2=>by have:=(ho.lt g e).1;omega)
 ·rcases hl with q | q
  ·rw[q] at e;exact h.ne g e e2
  ·have h1:=q g e;have h2:=h.q.lt g e2;omega
set_option maxHeartbeats 8000000 in
theorem placeLeaf_any (t:T) (hl:t.leaf=true) (hp:t.page=0) (hg:∃ r,t.good r=true) (hne:Neat t) (P:Nat) (Z Pn:Nat->Prop) (tx:Int) (s:PSt) (w:World) (L:Nat) (a:Option Addr) (n c:Nat) (hM:GML w Pn t L a n c) (h:QW w P Z tx s) (hPn:∀ g,Pn g->g<w.heap.size∧¬ Z g) (hlen:s.log.length<=900000) :
  Calls Tryz.prog 55 #[.pointer (some ⟨P,0,none⟩),.pointer (some ⟨L,0,none⟩)] w fun e w'=>e=.returned (.tuple #[])∧GML w' Pn (placeT t s).1 L a n c∧∃ Z',QW w' P Z' tx (placeT t s).2∧Fr (fun g=>Z g∨Pn g) w w'∧∀ g,Z' g->Z g∨w.heap.size<=g:=by
 obtain⟨r,hg⟩:=hg
 have hgp:=good_parts hg
 obtain⟨g1,g2,g3⟩:=hgp.2.1 hl
 have hk4:t.keys.length<=4:=by have:=hgp.1.2;simpa[T.size,hl] using this
 have hky:t.kids=[]:=((neat_eq t).1 hne).1 hl
 have hkn:=hM.len
 have hn4:n<=4:=by omega
 have HPL:Hid (placeT t s=endP true t.keys t.vals [] (overP (t.vals.zip t.over) s)):=by show _=_;rw[placeT_eq,if_neg (by simp[hp]),hl,hky];rfl
 have HLN:Hid (t.vals.length=n∧t.over.length=n∧t.keys.length=n∧1<=t.nodes):=⟨by omega,by omega,by omega,by rw[T.nodes_eq];omega⟩
 have HST:Hid (∀ i,i<n->(t.vals.getD i ByteArray.empty).size<=400):=fun i hi=>by
  have h1:(t.vals.getD i ByteArray.empty,t.over.getD i 0) ∈ t.vals.zip t.over:=by
   rw[List.mem_iff_getElem]
   refine⟨i,by simp;omega,?_⟩
   simp[List.getD,List.getElem?_eq_getElem (show i<t.vals.length by omega),List.getElem?_eq_getElem (show i<t.over.length by omega)]
  exact stand_400 (g3 _ h1)
 obtain⟨W,hW⟩:∃ W,W=w.alloc (.cells #[.int .i64 3,.int .i64 0,.int .i64 0,.int .i64 0,.int .i64 0,.slice none 0 0,.slice none 0 0,.int .i64 0,.string ⟨#[]⟩] 93):=⟨_,rfl⟩
 have b1:Below w.heap.size w W:=by rw[hW];exact (Below.refl w.heap.size w).alloc (Nat.le_refl _) _
 have hbx:W.heap[w.heap.size]?=some (.cells #[.int .i64 3,.int .i64 0,.int .i64 0,.int .i64 0,.int .i64 0,.slice none 0 0,.slice none 0 0,.int .i64 0,.string ⟨#[]⟩] 93):=by rw[hW];exact heap_alloc_new w _
 have hb0:=hM.box
 rw[hp] at hb0
 have lL:L<w.heap.size:=(hPn L hM.at').1
 have HLZ:Hid (∀ g,Z g->g<w.heap.size):=h.lt
 have HPN:Hid (∀ g,Pn g->g<w.heap.size∧¬ Z g):=hPn
 have H0:Hid (LQ w W P Z Z Pn tx t L a n c (overP ((t.vals.zip t.over).take 0) s).2 ((overP ((t.vals.zip t.over).take 0) s).1++t.over.drop 0) none 0 0 (esC t s 0)) :=
  ⟨h.below b1,(b1.block L lL).trans hb0,owns_below hM.row b1,hbx,⟨by simp[esC,rowsOf],.inl ⟨rfl,rfl⟩⟩,fun g e=>by simp[Value.ownBlock] at e,fun e=>by have:=h.lt _ e;omega,fun g e=>.inl e,Fr.of_below b1⟩
 have HM:Hid (Pn L∧∀ g,(Value.slice a n c).ownBlock=some g->Pn g∧g≠L):=⟨hM.at',hM.blk⟩
 have HSL:Hid (s.log.length<=900000):=hlen
 obtain⟨ie,hie,he0,he1,he2⟩:=info_parts info_EntP
 obtain⟨c0,c1⟩:=box_twoG ((b1.block L lL).trans hb0)
 have lLW:L<W.heap.size:=Nat.lt_of_lt_of_le lL b1.size
 clear h hM hPn hlen hgp g1 g2 g3 hk4 hky hkn hne hg hbx b1 hb0 hl hp
 go_enter Tryz.func55,Tryz.ntmps55
 go_upto_region 1 with fail
 rw[<-hW]
 clear hW
 go_wp2_with fail
 go_loopw [12] (fun k wr=>∃ (i:Nat) (Zi:Nat->Prop) (ea:Option Addr) (ec:Nat),i<=n∧k=.int .i64 (i:Int)∧Hid (LQ w wr P Z Zi Pn tx t L a n c (overP ((t.vals.zip t.over).take i) s).2 ((overP ((t.vals.zip t.over).take i) s).1++t.over.drop i) ea i ec (esC t s i))) (fun k _=>n - (intOf k).toNat)
 case atStart=>exact⟨0,Z,none,0,Nat.zero_le _,rfl,H0⟩
 case round =>
  clear H0 c0 c1 lLW
  obtain⟨i,Zi,ea,ec,hi,rfl,HQ⟩:=hrel
  by_cases hlt:i<n
  ·obtain⟨G,rfl⟩:=owns_someD HQ.out.row (by omega)
   obtain⟨cur,hcur⟩:=own_ty HQ.out.row (g:=G) rfl
   obtain⟨si,hsi⟩:∃ si,(overP ((t.vals.zip t.over).take i) s).2=si:=⟨_,rfl⟩
   obtain⟨l0,hl0⟩:∃ l0,(overP ((t.vals.zip t.over).take i) s).1=l0:=⟨_,rfl⟩
   have HL0:Hid (l0.length=i):=by show _=_;rw[<-hl0,overP_len];have:=HLN.out;simp;omega
   obtain⟨kk,hkk⟩:∃ kk,t.keys.getD i ByteArray.empty=kk:=⟨_,rfl⟩
   obtain⟨vv,hvv⟩:∃ vv,t.vals.getD i ByteArray.empty=vv:=⟨_,rfl⟩
   obtain⟨ov,hov⟩:∃ ov,t.over.getD i 0=ov:=⟨_,rfl⟩
   have hv4:=HST.out i hlt
   rw[hvv] at hv4
   have hLV:∀ (l:List (ByteArray × Int)),(∀ x ∈ l,x ∈ t.vals.zip t.over)->∀ x ∈ l,x.1.size<=400:=fun l hl x hx=>by
    obtain⟨q,hq,e⟩:=List.mem_iff_getElem.1 (List.of_mem_zip (a:=x.1) (b:=x.2) (hl x hx)).1
    have:=HST.out q (by have:=HLN.out.1;omega)
    rw[<-e]
    simpa[List.getD,List.getElem?_eq_getElem hq] using this
   have HLE:Hid (si.log.length<=999000):=by
    have h1:=over_len ((t.vals.zip t.over).take i) s (hLV _ (fun x hx=>List.mem_of_mem_take hx))
    have h2:=HSL.out
    rw[hsi] at h1
    have h3:((t.vals.zip t.over).take i).length<=i:=by simp;omega
    show _<=_
    omega
   have HEQ:Hid (overP ((t.vals.zip t.over).take (i+1)) s=(l0++[ovN vv ov si],ovS vv ov si)):=by
    show _=_
    have e1:(t.vals.zip t.over).take (i+1)=(t.vals.zip t.over).take i++[(vv,ov)]:=by
     have h1:=HLN.out
     rw[List.take_add_one,<-hvv,<-hov,List.getElem?_eq_getElem (show i<(t.vals.zip t.over).length by simp;omega)]
     simp[List.getD,List.getElem?_eq_getElem (show i<t.vals.length by omega),List.getElem?_eq_getElem (show i<t.over.length by omega)]
    rw[e1,ov_snoc,hl0,hsi]
   have HES:Hid (esC t s (i+1)=esC t s i++[entC (kk,vv,ovN vv ov si)]):=es_next HLN.out hlt ⟨hkk,hvv⟩ (by rw[HEQ.out,hl0])
   have HOL:Hid ((l0++t.over.drop i).set i (ovN vv ov si)=(l0++[ovN vv ov si])++t.over.drop (i+1)):=over_setI HL0.out (by have:=HLN.out;omega)
   rw[hsi,hl0] at HQ
   have HOI:Hid ((l0++t.over.drop i).getD i 0=ov∧(l0++t.over.drop i).length=n):=by
    have h1:=HLN.out
    have h2:=HL0.out
    refine⟨?_,by simp;omega⟩
    rw[<-hov]
    simp[List.getD,List.getElem?_append_right (show l0.length<=i by omega),h2,List.getElem?_drop]
   have hcells:=slot_cells (t:=t) (ol:=l0++t.over.drop i) HLN.out.2.2.1 HLN.out.1 HOI.out.2 hlt
   rw[hkk,hvv,HOI.out.1] at hcells
   have hcc:∀ q,q<n*3->cur[q]?=(rowsOf slCells (slz t (l0++t.over.drop i)))[q]?:=fun q hq=>by
    have:=HQ.out.row.cellAt q hq
    rw[<-this]
    simp[World.cell?,hcur]
   have HCU:Hid (cur[i*3]?=some (.string kk)∧cur[i*3+1]?=some (.string vv)∧cur[i*3+2]?=some (.int .i64 ov)):=⟨(hcc _ (by omega)).trans hcells.1,(hcc _ (by omega)).trans hcells.2.1,(hcc _ (by omega)).trans hcells.2.2⟩
   have HKR:Hid (wr.heap[G]?=some (.cells cur 134)):=hcur
   have hPG:=HM.out.2 G rfl
   have HPG:Hid (Pn G∧G≠L):=hPG
   have lG:G<w.heap.size:=(HPN.out G hPG.1).1
   have HNZ:Hid (¬ Zi G):=fun e=>(HQ.out.zi G e).elim (HPN.out G hPG.1).2 (fun e=>by omega)
   obtain⟨xe,hxe⟩:∃ xe,entC (kk,vv,ovN vv ov si)=xe:=⟨_,rfl⟩
   have HXE:Hid (entC (kk,vv,ovN vv ov si)=xe):=hxe
   have lLr:L<wr.heap.size:=(Array.getElem?_eq_some_iff.1 HQ.out.box).1
   clear hcur hsi hl0 hkk hov hLV hcells hcc hPG hxe hvv
   go_upto_region 4 with fail
   have bV0:=(Below.refl wr.heap.size wr).drew
   refine wp_region_noPanic ?_
   refine wp_region_held_drew (S:=(fun _:World=>True)) (by kernel_rfl) (trivial) (fun hHeld=>?_)
   clear hHeld
   generalize wr.drew=V at bV0 ⊢
   have hHeld:=trivial
   have HQV:Hid (LQ w V P Z Zi Pn tx t L (some ⟨G,0,none⟩) n c si (l0++t.over.drop i) ea i ec (esC t s i)):=HQ.out.below bV0
   have HKV:Hid (V.heap[G]?=some (.cells cur 134)):=(bV0.block G (Array.getElem?_eq_some_iff.1 HKR.out).1).trans HKR.out
   have hcon:=placeSlot_any P G (i*3) Zi tx si V HQV.out.q cur HKV.out HNZ.out kk vv ov HCU.out.1 HCU.out.2.1 HCU.out.2.2 hv4 HLE.out
   unfold SlotAns at hcon
   clear bV0 HQ HKR lLr
   obtain⟨p0,p1,p2,p3,p4,p5,p6,p7,p8⟩:=box9P HQV.out.pb
   obtain⟨b0,b1⟩:=box_twoG HQV.out.box
   have lL9:L<V.heap.size:=(Array.getElem?_eq_some_iff.1 HQV.out.box).1
   have lN9:w.heap.size<V.heap.size:=(Array.getElem?_eq_some_iff.1 HQV.out.pb).1
   refine tY 0 (.pointer (some ⟨w.heap.size,6,none⟩)) .z (by kernel_rfl) (by rfl) ?_ ‹_› ?_
   ·intro wq hSw;go_simp
   refine tY 2 (.pointer (some ⟨P,0,none⟩)) (.s (.s .z)) (by kernel_rfl) (by rfl) ?_ ‹_› ?_
   ·intro wq hSw;go_simp
   refine tY 3 (.pointer (some ⟨L,0,none⟩)) (.s (.s (.s .z))) (by kernel_rfl) (by rfl) ?_ ‹_› ?_
   ·intro wq hSw;go_simp
   refine tY 4 (.pointer (some ⟨L,0,none⟩)) (.s (.s (.s (.s .z)))) (by kernel_rfl) (by rfl) ?_ ‹_› ?_
   ·intro wq hSw;go_simp
   try simp only[Act.put,q1,q2,q3]
   refine tY 5 (.pointer (some ⟨L,1,none⟩)) (.f .z) (by kernel_rfl) (by rfl) ?_ ‹_› ?_
   ·intro wq hSw;go_simp
   refine tY 7 (.int .i64 (i:Int)) (.f (.s (.s .z))) (by kernel_rfl) (by rfl) ?_ ‹_› ?_
   ·intro wq hSw;go_simp
   try simp only[Act.put,q1,q2,q3]
   refine wpAnyH_ready (rs:=[1,6]) (by kernel_rfl) (by simp) ?_
   refine rdA (.s .z) (fun K hK=>?_) ?_
   rotate_left 1
   refine rdA (.f (.s .z)) (fun K hK=>?_) ?_
   rotate_left 1
   exact AllReadyH.nil
   ·go_simp
    refine hK.out _ _ (trivial) (fun hHeld=>?_)
    clear hK K
    try simp only[Act.put,q1,q2,q3]
    refine wpAnyH_ready (rs:=[6]) (by kernel_rfl) (by simp) ?_
    refine rdA (.f (.s .z)) (fun K hK=>?_) AllReadyH.nil
    go_simp
    refine hK.out _ _ (trivial) (fun hHeld=>?_)
    clear hK K
    refine tY 8 (.pointer (some ⟨G,i*3,none⟩)) (.f (.s (.s (.s .z)))) (by kernel_rfl) (by rfl) ?_ ‹_› ?_
    ·intro wq hSw;go_simp
    try simp only[Act.put,q1,q2,q3]
    refine wpAnyH_ready (rs:=[9]) (by kernel_rfl) (by simp) ?_
    refine rdA (.f (.s (.s (.s (.s .z))))) (fun K hK=>?_) AllReadyH.nil
    go_simp
    refine hcon.mono ?_
    rintro e w1 ⟨rfl,Z1,hq1,hk1,hf1,hz1⟩
    have HQ1:Hid (LQ w w1 P Z Z1 Pn tx t L (some ⟨G,0,none⟩) n c (ovS vv ov si) ((l0++t.over.drop i).set i (ovN vv ov si)) ea i ec (esC t s i)):=HQV.out.slot HPN.out HM.out.1 HPG.out.1 (fun e=>HPG.out.2 e.symm) HKV.out (by have:=HLN.out;omega) (by have:=HLN.out;have:=HOI.out.2;omega) hq1 hk1 hf1 hz1
    rw[HXE.out]
    clear hq1 hk1 hf1 hz1 hcon
    clear p0 p1 p2 p3 p4 p5 p6 p7 p8 b0 b1 lL9 lN9
    obtain⟨p0,p1,p2,p3,p4,p5,p6,p7,p8⟩:=box9P HQ1.out.pb
    obtain⟨b0,b1⟩:=box_twoG HQ1.out.box
    have lL9:L<w1.heap.size:=(Array.getElem?_eq_some_iff.1 HQ1.out.box).1
    have lN9:w.heap.size<w1.heap.size:=(Array.getElem?_eq_some_iff.1 HQ1.out.pb).1
    go_wp2_with fail
    refine hK.out _ _ (trivial) (fun hHeld=>?_)
    clear hK K
    try simp only[Act.put,q1,q2,q3]
    refine wpAnyH_ready (rs:=[10]) (by kernel_rfl) (by simp) ?_
    refine rdA (.t .z) (fun K hK=>?_) AllReadyH.nil
    go_simp
    have HAL:Hid (Below w1.heap.size w1 (w1.alloc (.cells #[.string xe.1,.string xe.2.1,.int .i64 xe.2.2.1,.int .i64 xe.2.2.2] 98))):=(Below.refl w1.heap.size w1).alloc (Nat.le_refl _) _
    have HQ2:Hid (LQ w (w1.alloc (.cells #[.string xe.1,.string xe.2.1,.int .i64 xe.2.2.1,.int .i64 xe.2.2.2] 98)) P Z Z1 Pn tx t L (some ⟨G,0,none⟩) n c (ovS vv ov si) ((l0++t.over.drop i).set i (ovN vv ov si)) ea i ec (esC t s i)):=HQ1.out.below HAL.out
    clear p0 p1 p2 p3 p4 p5 p6 p7 p8 b0 b1 lL9 lN9
    obtain⟨p0,p1,p2,p3,p4,p5,p6,p7,p8⟩:=box9P HQ2.out.pb
    obtain⟨b0,b1⟩:=box_twoG HQ2.out.box
    have lL9:L<(w1.alloc (.cells #[.string xe.1,.string xe.2.1,.int .i64 xe.2.2.1,.int .i64 xe.2.2.2] 98)).heap.size:=(Array.getElem?_eq_some_iff.1 HQ2.out.box).1
    have lN9:w.heap.size<(w1.alloc (.cells #[.string xe.1,.string xe.2.1,.int .i64 xe.2.2.1,.int .i64 xe.2.2.2] 98)).heap.size:=(Array.getElem?_eq_some_iff.1 HQ2.out.pb).1
    refine hK.out _ _ (trivial) (fun hHeld=>?_)
    clear hK K
    try simp only[Act.put,q1,q2,q3]
    refine wpAnyH_ready (rs:=[11]) (by kernel_rfl) (by simp) ?_
    refine rdA (.t (.s .z)) (fun K hK=>?_) AllReadyH.nil
    refine step_append_T rfl _ _ 91 rfl (w.heap.size+1) 98 ie _ 4 48 Tryz.underlying91 hie he0 he1 he2 rfl (by decide) (.slice ea i ec) i (rowsOf entCells (esC t s i)) (by simp[Act.eval]) HQ2.out.er ⟨w1.heap.size,0,none⟩ 1 1 [.string xe.1,.string xe.2.1,.int .i64 xe.2.2.1,.int .i64 xe.2.2.2] (by simp[Act.eval]) rfl (cell_four_newP _ _ _ _ _ _) (by simp[Value.oneCell']) (by unfold maxLen;omega) (by omega) (by omega) ?_
    intro u7 w7 hown7 hgr7 hlies7
    obtain⟨g7,c7,rfl⟩:=own_shape hown7
    have hb7:w7.heap[w.heap.size]?=_:=(hgr7.block _ lN9 (fun e=>own_ne_ty HQ2.out.er HQ2.out.pb (by decide) e.symm)).trans HQ2.out.pb
    have HL9:=Hid.i (HQ2.out.ent (x:=xe) HPN.out HM.out.1 HLZ.out hown7 hgr7 hlies7)
    clear p0 p1 p2 p3 p4 p5 p6 p7 p8 b0 b1 lL9 lN9
    obtain⟨p0,p1,p2,p3,p4,p5,p6,p7,p8⟩:=box9P hb7
    have f7:=thawT hb7
    have l7:w.heap.size<w7.heap.size:=(Array.getElem?_eq_some_iff.1 hb7).1
    clear hown7 hgr7 hlies7 hb7
    refine hK.out _ _ (trivial) (fun hHeld=>?_)
    clear hK K
    refine tY 12 (.pointer (some ⟨w.heap.size,6,none⟩)) (.t (.s (.s .z))) (by kernel_rfl) (by rfl) ?_ ‹_› ?_
    ·intro wq hSw;go_simp
    try simp only[Act.put,q1,q2,q3]
    refine wpAnyH_ready (rs:=[13]) (by kernel_rfl) (by simp) ?_
    refine rdA (.t (.s (.s (.s .z)))) (fun K hK=>?_) AllReadyH.nil
    go_simp
    refine hK.out _ _ (trivial) (fun hHeld=>?_)
    clear hK K
    try simp only[Act.put,q1,q2,q3]
    refine wpAnyH_done (by kernel_rfl) ?_ _
    refine NoPanic.normal ?_
    clear hHeld p0 p1 p2 p3 p4 p5 p6 p7 p8 f7 l7
    go_wp2_with fail
    go_roundw
    case rel=>exact⟨i+1,Z1,g7,c7,by omega,by go_num,by show LQ _ _ _ _ _ _ _ _ _ _ _ _ _ _ _ _ _ _;rw[HEQ.out,HES.out,HXE.out,<-HOL.out];exact HL9.out⟩
    case measure=>simp[intOf];omega
   ·go_simp
    refine hK.out _ _ (trivial) (fun hHeld=>?_)
    clear hK K
    refine tY 8 (.pointer (some ⟨G,i*3,none⟩)) (.f (.s (.s (.s .z)))) (by kernel_rfl) (by rfl) ?_ ‹_› ?_
    ·intro wq hSw;go_simp
    try simp only[Act.put,q1,q2,q3]
    refine wpAnyH_ready (rs:=[1,9]) (by kernel_rfl) (by simp) ?_
    refine rdA (.s .z) (fun K hK=>?_) ?_
    rotate_left 1
    refine rdA (.f (.s (.s (.s (.s .z))))) (fun K hK=>?_) ?_
    rotate_left 1
    exact AllReadyH.nil
    ·go_simp
     refine hK.out _ _ (trivial) (fun hHeld=>?_)
     clear hK K
     try simp only[Act.put,q1,q2,q3]
     refine wpAnyH_ready (rs:=[9]) (by kernel_rfl) (by simp) ?_
     refine rdA (.f (.s (.s (.s (.s .z))))) (fun K hK=>?_) AllReadyH.nil
     go_simp
     refine hcon.mono ?_
     rintro e w1 ⟨rfl,Z1,hq1,hk1,hf1,hz1⟩
     have HQ1:Hid (LQ w w1 P Z Z1 Pn tx t L (some ⟨G,0,none⟩) n c (ovS vv ov si) ((l0++t.over.drop i).set i (ovN vv ov si)) ea i ec (esC t s i)):=HQV.out.slot HPN.out HM.out.1 HPG.out.1 (fun e=>HPG.out.2 e.symm) HKV.out (by have:=HLN.out;omega) (by have:=HLN.out;have:=HOI.out.2;omega) hq1 hk1 hf1 hz1
     rw[HXE.out]
     clear hq1 hk1 hf1 hz1 hcon
     clear p0 p1 p2 p3 p4 p5 p6 p7 p8 b0 b1 lL9 lN9
     obtain⟨p0,p1,p2,p3,p4,p5,p6,p7,p8⟩:=box9P HQ1.out.pb
     obtain⟨b0,b1⟩:=box_twoG HQ1.out.box
     have lL9:L<w1.heap.size:=(Array.getElem?_eq_some_iff.1 HQ1.out.box).1
     have lN9:w.heap.size<w1.heap.size:=(Array.getElem?_eq_some_iff.1 HQ1.out.pb).1
     go_wp2_with fail
     refine hK.out _ _ (trivial) (fun hHeld=>?_)
     clear hK K
     try simp only[Act.put,q1,q2,q3]
     refine wpAnyH_ready (rs:=[10]) (by kernel_rfl) (by simp) ?_
     refine rdA (.t .z) (fun K hK=>?_) AllReadyH.nil
     go_simp
     have HAL:Hid (Below w1.heap.size w1 (w1.alloc (.cells #[.string xe.1,.string xe.2.1,.int .i64 xe.2.2.1,.int .i64 xe.2.2.2] 98))):=(Below.refl w1.heap.size w1).alloc (Nat.le_refl _) _
     have HQ2:Hid (LQ w (w1.alloc (.cells #[.string xe.1,.string xe.2.1,.int .i64 xe.2.2.1,.int .i64 xe.2.2.2] 98)) P Z Z1 Pn tx t L (some ⟨G,0,none⟩) n c (ovS vv ov si) ((l0++t.over.drop i).set i (ovN vv ov si)) ea i ec (esC t s i)):=HQ1.out.below HAL.out
     clear p0 p1 p2 p3 p4 p5 p6 p7 p8 b0 b1 lL9 lN9
     obtain⟨p0,p1,p2,p3,p4,p5,p6,p7,p8⟩:=box9P HQ2.out.pb
     obtain⟨b0,b1⟩:=box_twoG HQ2.out.box
     have lL9:L<(w1.alloc (.cells #[.string xe.1,.string xe.2.1,.int .i64 xe.2.2.1,.int .i64 xe.2.2.2] 98)).heap.size:=(Array.getElem?_eq_some_iff.1 HQ2.out.box).1
     have lN9:w.heap.size<(w1.alloc (.cells #[.string xe.1,.string xe.2.1,.int .i64 xe.2.2.1,.int .i64 xe.2.2.2] 98)).heap.size:=(Array.getElem?_eq_some_iff.1 HQ2.out.pb).1
     refine hK.out _ _ (trivial) (fun hHeld=>?_)
     clear hK K
     try simp only[Act.put,q1,q2,q3]
     refine wpAnyH_ready (rs:=[11]) (by kernel_rfl) (by simp) ?_
     refine rdA (.t (.s .z)) (fun K hK=>?_) AllReadyH.nil
     refine step_append_T rfl _ _ 91 rfl (w.heap.size+1) 98 ie _ 4 48 Tryz.underlying91 hie he0 he1 he2 rfl (by decide) (.slice ea i ec) i (rowsOf entCells (esC t s i)) (by simp[Act.eval]) HQ2.out.er ⟨w1.heap.size,0,none⟩ 1 1 [.string xe.1,.string xe.2.1,.int .i64 xe.2.2.1,.int .i64 xe.2.2.2] (by simp[Act.eval]) rfl (cell_four_newP _ _ _ _ _ _) (by simp[Value.oneCell']) (by unfold maxLen;omega) (by omega) (by omega) ?_
     intro u7 w7 hown7 hgr7 hlies7
     obtain⟨g7,c7,rfl⟩:=own_shape hown7
     have hb7:w7.heap[w.heap.size]?=_:=(hgr7.block _ lN9 (fun e=>own_ne_ty HQ2.out.er HQ2.out.pb (by decide) e.symm)).trans HQ2.out.pb
     have HL9:=Hid.i (HQ2.out.ent (x:=xe) HPN.out HM.out.1 HLZ.out hown7 hgr7 hlies7)
     clear p0 p1 p2 p3 p4 p5 p6 p7 p8 b0 b1 lL9 lN9
     obtain⟨p0,p1,p2,p3,p4,p5,p6,p7,p8⟩:=box9P hb7
     have f7:=thawT hb7
     have l7:w.heap.size<w7.heap.size:=(Array.getElem?_eq_some_iff.1 hb7).1
     clear hown7 hgr7 hlies7 hb7
     refine hK.out _ _ (trivial) (fun hHeld=>?_)
     clear hK K
     refine tY 12 (.pointer (some ⟨w.heap.size,6,none⟩)) (.t (.s (.s .z))) (by kernel_rfl) (by rfl) ?_ ‹_› ?_
     ·intro wq hSw;go_simp
     try simp only[Act.put,q1,q2,q3]
     refine wpAnyH_ready (rs:=[13]) (by kernel_rfl) (by simp) ?_
     refine rdA (.t (.s (.s (.s .z)))) (fun K hK=>?_) AllReadyH.nil
     go_simp
     refine hK.out _ _ (trivial) (fun hHeld=>?_)
     clear hK K
     try simp only[Act.put,q1,q2,q3]
     refine wpAnyH_done (by kernel_rfl) ?_ _
     refine NoPanic.normal ?_
     clear hHeld p0 p1 p2 p3 p4 p5 p6 p7 p8 f7 l7
     go_wp2_with fail
     go_roundw
     case rel=>exact⟨i+1,Z1,g7,c7,by omega,by go_num,by show LQ _ _ _ _ _ _ _ _ _ _ _ _ _ _ _ _ _ _;rw[HEQ.out,HES.out,HXE.out,<-HOL.out];exact HL9.out⟩
     case measure=>simp[intOf];omega
    ·go_simp
     refine hcon.mono ?_
     rintro e w1 ⟨rfl,Z1,hq1,hk1,hf1,hz1⟩
     have HQ1:Hid (LQ w w1 P Z Z1 Pn tx t L (some ⟨G,0,none⟩) n c (ovS vv ov si) ((l0++t.over.drop i).set i (ovN vv ov si)) ea i ec (esC t s i)):=HQV.out.slot HPN.out HM.out.1 HPG.out.1 (fun e=>HPG.out.2 e.symm) HKV.out (by have:=HLN.out;omega) (by have:=HLN.out;have:=HOI.out.2;omega) hq1 hk1 hf1 hz1
     rw[HXE.out]
     clear hq1 hk1 hf1 hz1 hcon
     clear p0 p1 p2 p3 p4 p5 p6 p7 p8 b0 b1 lL9 lN9
     obtain⟨p0,p1,p2,p3,p4,p5,p6,p7,p8⟩:=box9P HQ1.out.pb
     obtain⟨b0,b1⟩:=box_twoG HQ1.out.box
     have lL9:L<w1.heap.size:=(Array.getElem?_eq_some_iff.1 HQ1.out.box).1
     have lN9:w.heap.size<w1.heap.size:=(Array.getElem?_eq_some_iff.1 HQ1.out.pb).1
     go_wp2_with fail
     refine hK.out _ _ (trivial) (fun hHeld=>?_)
     clear hK K
     try simp only[Act.put,q1,q2,q3]
     refine wpAnyH_ready (rs:=[1,10]) (by kernel_rfl) (by simp) ?_
     refine rdA (.s .z) (fun K hK=>?_) ?_
     rotate_left 1
     refine rdA (.t .z) (fun K hK=>?_) ?_
     rotate_left 1
     exact AllReadyH.nil
     ·go_simp
      refine hK.out _ _ (trivial) (fun hHeld=>?_)
      clear hK K
      try simp only[Act.put,q1,q2,q3]
      refine wpAnyH_ready (rs:=[10]) (by kernel_rfl) (by simp) ?_
      refine rdA (.t .z) (fun K hK=>?_) AllReadyH.nil
      go_simp
      have HAL:Hid (Below w1.heap.size w1 (w1.alloc (.cells #[.string xe.1,.string xe.2.1,.int .i64 xe.2.2.1,.int .i64 xe.2.2.2] 98))):=(Below.refl w1.heap.size w1).alloc (Nat.le_refl _) _
      have HQ2:Hid (LQ w (w1.alloc (.cells #[.string xe.1,.string xe.2.1,.int .i64 xe.2.2.1,.int .i64 xe.2.2.2] 98)) P Z Z1 Pn tx t L (some ⟨G,0,none⟩) n c (ovS vv ov si) ((l0++t.over.drop i).set i (ovN vv ov si)) ea i ec (esC t s i)):=HQ1.out.below HAL.out
      clear p0 p1 p2 p3 p4 p5 p6 p7 p8 b0 b1 lL9 lN9
      obtain⟨p0,p1,p2,p3,p4,p5,p6,p7,p8⟩:=box9P HQ2.out.pb
      obtain⟨b0,b1⟩:=box_twoG HQ2.out.box
      have lL9:L<(w1.alloc (.cells #[.string xe.1,.string xe.2.1,.int .i64 xe.2.2.1,.int .i64 xe.2.2.2] 98)).heap.size:=(Array.getElem?_eq_some_iff.1 HQ2.out.box).1
      have lN9:w.heap.size<(w1.alloc (.cells #[.string xe.1,.string xe.2.1,.int .i64 xe.2.2.1,.int .i64 xe.2.2.2] 98)).heap.size:=(Array.getElem?_eq_some_iff.1 HQ2.out.pb).1
      refine hK.out _ _ (trivial) (fun hHeld=>?_)
      clear hK K
      try simp only[Act.put,q1,q2,q3]
      refine wpAnyH_ready (rs:=[11]) (by kernel_rfl) (by simp) ?_
      refine rdA (.t (.s .z)) (fun K hK=>?_) AllReadyH.nil
      refine step_append_T rfl _ _ 91 rfl (w.heap.size+1) 98 ie _ 4 48 Tryz.underlying91 hie he0 he1 he2 rfl (by decide) (.slice ea i ec) i (rowsOf entCells (esC t s i)) (by simp[Act.eval]) HQ2.out.er ⟨w1.heap.size,0,none⟩ 1 1 [.string xe.1,.string xe.2.1,.int .i64 xe.2.2.1,.int .i64 xe.2.2.2] (by simp[Act.eval]) rfl (cell_four_newP _ _ _ _ _ _) (by simp[Value.oneCell']) (by unfold maxLen;omega) (by omega) (by omega) ?_
      intro u7 w7 hown7 hgr7 hlies7
      obtain⟨g7,c7,rfl⟩:=own_shape hown7
      have hb7:w7.heap[w.heap.size]?=_:=(hgr7.block _ lN9 (fun e=>own_ne_ty HQ2.out.er HQ2.out.pb (by decide) e.symm)).trans HQ2.out.pb
      have HL9:=Hid.i (HQ2.out.ent (x:=xe) HPN.out HM.out.1 HLZ.out hown7 hgr7 hlies7)
      clear p0 p1 p2 p3 p4 p5 p6 p7 p8 b0 b1 lL9 lN9
      obtain⟨p0,p1,p2,p3,p4,p5,p6,p7,p8⟩:=box9P hb7
      have f7:=thawT hb7
      have l7:w.heap.size<w7.heap.size:=(Array.getElem?_eq_some_iff.1 hb7).1
      clear hown7 hgr7 hlies7 hb7
      refine hK.out _ _ (trivial) (fun hHeld=>?_)
      clear hK K
      refine tY 12 (.pointer (some ⟨w.heap.size,6,none⟩)) (.t (.s (.s .z))) (by kernel_rfl) (by rfl) ?_ ‹_› ?_
      ·intro wq hSw;go_simp
      try simp only[Act.put,q1,q2,q3]
      refine wpAnyH_ready (rs:=[13]) (by kernel_rfl) (by simp) ?_
      refine rdA (.t (.s (.s (.s .z)))) (fun K hK=>?_) AllReadyH.nil
      go_simp
      refine hK.out _ _ (trivial) (fun hHeld=>?_)
      clear hK K
      try simp only[Act.put,q1,q2,q3]
      refine wpAnyH_done (by kernel_rfl) ?_ _
      refine NoPanic.normal ?_
      clear hHeld p0 p1 p2 p3 p4 p5 p6 p7 p8 f7 l7
      go_wp2_with fail
      go_roundw
      case rel=>exact⟨i+1,Z1,g7,c7,by omega,by go_num,by show LQ _ _ _ _ _ _ _ _ _ _ _ _ _ _ _ _ _ _;rw[HEQ.out,HES.out,HXE.out,<-HOL.out];exact HL9.out⟩
      case measure=>simp[intOf];omega
     ·go_simp
      have HAL:Hid (Below w1.heap.size w1 (w1.alloc (.cells #[.string xe.1,.string xe.2.1,.int .i64 xe.2.2.1,.int .i64 xe.2.2.2] 98))):=(Below.refl w1.heap.size w1).alloc (Nat.le_refl _) _
      have HQ2:Hid (LQ w (w1.alloc (.cells #[.string xe.1,.string xe.2.1,.int .i64 xe.2.2.1,.int .i64 xe.2.2.2] 98)) P Z Z1 Pn tx t L (some ⟨G,0,none⟩) n c (ovS vv ov si) ((l0++t.over.drop i).set i (ovN vv ov si)) ea i ec (esC t s i)):=HQ1.out.below HAL.out
      clear p0 p1 p2 p3 p4 p5 p6 p7 p8 b0 b1 lL9 lN9
      obtain⟨p0,p1,p2,p3,p4,p5,p6,p7,p8⟩:=box9P HQ2.out.pb
      obtain⟨b0,b1⟩:=box_twoG HQ2.out.box
      have lL9:L<(w1.alloc (.cells #[.string xe.1,.string xe.2.1,.int .i64 xe.2.2.1,.int .i64 xe.2.2.2] 98)).heap.size:=(Array.getElem?_eq_some_iff.1 HQ2.out.box).1
      have lN9:w.heap.size<(w1.alloc (.cells #[.string xe.1,.string xe.2.1,.int .i64 xe.2.2.1,.int .i64 xe.2.2.2] 98)).heap.size:=(Array.getElem?_eq_some_iff.1 HQ2.out.pb).1
      refine hK.out _ _ (trivial) (fun hHeld=>?_)
      clear hK K
      try simp only[Act.put,q1,q2,q3]
      refine wpAnyH_ready (rs:=[1]) (by kernel_rfl) (by simp) ?_
      refine rdA (.s .z) (fun K hK=>?_) AllReadyH.nil
      go_simp
      refine hK.out _ _ (trivial) (fun hHeld=>?_)
      clear hK K
      try simp only[Act.put,q1,q2,q3]
      refine wpAnyH_ready (rs:=[11]) (by kernel_rfl) (by simp) ?_
      refine rdA (.t (.s .z)) (fun K hK=>?_) AllReadyH.nil
      refine step_append_T rfl _ _ 91 rfl (w.heap.size+1) 98 ie _ 4 48 Tryz.underlying91 hie he0 he1 he2 rfl (by decide) (.slice ea i ec) i (rowsOf entCells (esC t s i)) (by simp[Act.eval]) HQ2.out.er ⟨w1.heap.size,0,none⟩ 1 1 [.string xe.1,.string xe.2.1,.int .i64 xe.2.2.1,.int .i64 xe.2.2.2] (by simp[Act.eval]) rfl (cell_four_newP _ _ _ _ _ _) (by simp[Value.oneCell']) (by unfold maxLen;omega) (by omega) (by omega) ?_
      intro u7 w7 hown7 hgr7 hlies7
      obtain⟨g7,c7,rfl⟩:=own_shape hown7
      have hb7:w7.heap[w.heap.size]?=_:=(hgr7.block _ lN9 (fun e=>own_ne_ty HQ2.out.er HQ2.out.pb (by decide) e.symm)).trans HQ2.out.pb
      have HL9:=Hid.i (HQ2.out.ent (x:=xe) HPN.out HM.out.1 HLZ.out hown7 hgr7 hlies7)
      clear p0 p1 p2 p3 p4 p5 p6 p7 p8 b0 b1 lL9 lN9
      obtain⟨p0,p1,p2,p3,p4,p5,p6,p7,p8⟩:=box9P hb7
      have f7:=thawT hb7
      have l7:w.heap.size<w7.heap.size:=(Array.getElem?_eq_some_iff.1 hb7).1
      clear hown7 hgr7 hlies7 hb7
      refine hK.out _ _ (trivial) (fun hHeld=>?_)
      clear hK K
      refine tY 12 (.pointer (some ⟨w.heap.size,6,none⟩)) (.t (.s (.s .z))) (by kernel_rfl) (by rfl) ?_ ‹_› ?_
      ·intro wq hSw;go_simp
      try simp only[Act.put,q1,q2,q3]
      refine wpAnyH_ready (rs:=[13]) (by kernel_rfl) (by simp) ?_
      refine rdA (.t (.s (.s (.s .z)))) (fun K hK=>?_) AllReadyH.nil
      go_simp
      refine hK.out _ _ (trivial) (fun hHeld=>?_)
      clear hK K
      try simp only[Act.put,q1,q2,q3]
      refine wpAnyH_done (by kernel_rfl) ?_ _
      refine NoPanic.normal ?_
      clear hHeld p0 p1 p2 p3 p4 p5 p6 p7 p8 f7 l7
      go_wp2_with fail
      go_roundw
      case rel=>exact⟨i+1,Z1,g7,c7,by omega,by go_num,by show LQ _ _ _ _ _ _ _ _ _ _ _ _ _ _ _ _ _ _;rw[HEQ.out,HES.out,HXE.out,<-HOL.out];exact HL9.out⟩
      case measure=>simp[intOf];omega
  ·obtain rfl:i=n:=by omega
   have htk:=take_any P Zi tx _ wr HQ.out.q
   obtain⟨sn,hsn⟩:∃ sn,(overP ((t.vals.zip t.over).take i) s).2=sn:=⟨_,rfl⟩
   obtain⟨num,hnum⟩:∃ num,(nxtP sn).1=num:=⟨_,rfl⟩
   have HSN:Hid ((overP ((t.vals.zip t.over).take i) s).2=sn∧(nxtP sn).1=num):=⟨hsn,hnum⟩
   rw[hsn,hnum] at htk
   have HPE:Hid (placeT t s=(⟨true,num,t.keys,t.vals,(overP (t.vals.zip t.over) s).1,[]⟩,{ (nxtP sn).2 with log:=(nxtP sn).2.log++[(num,.leaf (esC t s i))] })):=by
    have e1:(overP (t.vals.zip t.over) s).2=sn:=by
     rw[<-hsn,List.take_of_length_le (by have:=HLN.out;simp;omega)]
    show _=_
    rw[HPL.out]
    unfold endP pageP
    simp only[e1,hnum,if_true]
    rw[es_all HLN.out]
   have HOA:Hid ((overP ((t.vals.zip t.over).take i) s).1++t.over.drop i=(overP (t.vals.zip t.over) s).1):=by
    have h1:=HLN.out
    show _=_
    rw[List.take_of_length_le (by simp;omega),List.drop_eq_nil_of_le (by omega),List.append_nil]
   have HLE:Hid (sn.log.length<=999000):=by
    have h1:=over_len ((t.vals.zip t.over).take i) s (fun x hx=>by
     obtain⟨q,hq,e⟩:=List.mem_iff_getElem.1 (List.of_mem_zip (a:=x.1) (b:=x.2) (List.mem_of_mem_take hx)).1
     have:=HST.out q (by have:=HLN.out.1;omega)
     rw[<-e]
     simpa[List.getD,List.getElem?_eq_getElem hq] using this)
    have h2:=HSL.out
    rw[hsn] at h1
    have h3:((t.vals.zip t.over).take i).length<=i:=by simp;omega
    show _<=_
    omega
   rw[HOA.out,hsn] at HQ
   clear hsn hnum
   go_wp2_with fail
   refine htk.mono ?_
   rintro e w2 ⟨rfl,hQ2,hF2⟩
   have hPz:Zi P:=HQ.out.q.zp
   have nL:¬ Zi L:=fun e=>(HQ.out.zi L e).elim (HPN.out L HM.out.1).2 (fun e=>by omega)
   have lLr:L<wr.heap.size:=(Array.getElem?_eq_some_iff.1 HQ.out.box).1
   have hb2:w2.heap[L]?=_:=(hF2.block L lLr (fun e=>nL (e ▸ hPz))).trans HQ.out.box
   have f2:=thawT hb2
   obtain⟨d0,d1⟩:=box_twoG hb2
   have l2:L<w2.heap.size:=(Array.getElem?_eq_some_iff.1 hb2).1
   have lN:w.heap.size<wr.heap.size:=(Array.getElem?_eq_some_iff.1 HQ.out.pb).1
   have F3:=fr_setT w2 L 0 (.int .i64 num)
   have F23:Fr (fun g=>g=P∨g=L) wr (w2.setCell ⟨L,0,none⟩ (.int .i64 num)):=(hF2.weak (fun g e=>.inl e)).trans (F3.weak (fun g e=>.inr e))
   have HQ3:Hid (QW (w2.setCell ⟨L,0,none⟩ (.int .i64 num)) P Zi tx (nxtP sn).2):=hQ2.fr F3 (fun g hg e=>nL (e ▸ hg))
   have HB3:Hid ((w2.setCell ⟨L,0,none⟩ (.int .i64 num)).heap[L]?=some (.cells #[.int .i64 num,.slice a i c] 142)):=by show _=_;rw[heap_setT hb2];rfl
   have HN3:Hid ((w2.setCell ⟨L,0,none⟩ (.int .i64 num)).heap[w.heap.size]?=some (.cells #[.int .i64 3,.int .i64 0,.int .i64 0,.int .i64 0,.int .i64 0,.slice none 0 0,.slice ea i ec,.int .i64 0,.string ⟨#[]⟩] 93)):=(F23.block _ lN (fun e=>e.elim (fun e=>HQ.out.nN (e ▸ hPz)) (fun e=>by omega))).trans HQ.out.pb
   have HE3:Hid ((w2.setCell ⟨L,0,none⟩ (.int .i64 num)).ownsRow (w.heap.size+1) 98 4 (.slice ea i ec) i (rowsOf entCells (esC t s i))):=owns_fr HQ.out.er F23 (fun g e e2=>e2.elim (fun e2=>HQ.out.ne g e (e2 ▸ hPz)) (fun e2=>by have:=(HQ.out.er.lt g e).1;omega))
   have HR3:Hid ((w2.setCell ⟨L,0,none⟩ (.int .i64 num)).ownsRow 0 134 3 (.slice a i c) i (rowsOf slCells (slz t (overP (t.vals.zip t.over) s).1))):=owns_fr HQ.out.row F23 (fun g e e2=>e2.elim (fun e2=>(HQ.out.zi P hPz).elim (fun e3=>(HPN.out g (HM.out.2 g e).1).2 (e2 ▸ e3)) (fun e3=>by have:=(HPN.out g (HM.out.2 g e).1).1;omega)) (HM.out.2 g e).2)
   have HF3:Hid (Fr (fun g=>Z g∨Pn g) w (w2.setCell ⟨L,0,none⟩ (.int .i64 num))):=HQ.out.fr.up3 F23 (fun g e=>e.elim (fun e=>(HQ.out.zi g (e ▸ hPz)).elim (fun e=>.inl (.inl e)) .inr) (fun e=>.inl (.inr (e ▸ HM.out.1))))
   have HZI:Hid ((∀ g,Zi g->Z g∨w.heap.size<=g)∧(∀ g,(Value.slice ea i ec).ownBlock=some g->¬ Zi g)∧¬ Zi w.heap.size∧¬ Zi L):=⟨HQ.out.zi,HQ.out.ne,HQ.out.nN,nL⟩
   clear hQ2 hF2 htk hb2 F3 F23 HQ nL hPz
   go_upto_region 7 with fail
   clear f2 d0 d1 l2
   generalize w2.setCell ⟨L,0,none⟩ (.int .i64 num)=W7 at *
   have bV0:=(Below.refl W7.heap.size W7).drew
   obtain⟨y0,y1⟩:=box_twoG HB3.out
   have hsc:=box9P HN3.out
   refine wp_region_noPanic ?_
   refine wp_region_held_drew (S:=(fun V:World=>V.cell? ⟨L,0,none⟩=some (.int .i64 num)∧V.cell? ⟨w.heap.size,0,none⟩=some (.int .i64 3)∧V.cell? ⟨w.heap.size,1,none⟩=some (.int .i64 0)∧V.cell? ⟨w.heap.size,2,none⟩=some (.int .i64 0)∧V.cell? ⟨w.heap.size,3,none⟩=some (.int .i64 0)∧V.cell? ⟨w.heap.size,4,none⟩=some (.int .i64 0)∧V.cell? ⟨w.heap.size,5,none⟩=some (.slice none 0 0)∧V.cell? ⟨w.heap.size,6,none⟩=some (.slice ea i ec)∧V.cell? ⟨w.heap.size,7,none⟩=some (.int .i64 0)∧V.cell? ⟨w.heap.size,8,none⟩=some (.string ⟨#[]⟩))) (by kernel_rfl) (⟨y0,hsc⟩) (fun hHeld=>?_)
   clear hHeld y0 y1 hsc
   generalize W7.drew=V at bV0 ⊢
   have HVB:Hid (Below W7.heap.size W7 V):=bV0
   have HBV:Hid (V.heap[L]?=some (.cells #[.int .i64 num,.slice a i c] 142)):=(bV0.block L (Array.getElem?_eq_some_iff.1 HB3.out).1).trans HB3.out
   have HNV:Hid (V.heap[w.heap.size]?=some (.cells #[.int .i64 3,.int .i64 0,.int .i64 0,.int .i64 0,.int .i64 0,.slice none 0 0,.slice ea i ec,.int .i64 0,.string ⟨#[]⟩] 93)):=(bV0.block _ (Array.getElem?_eq_some_iff.1 HN3.out).1).trans HN3.out
   have HEV:Hid (V.ownsRow (w.heap.size+1) 98 4 (.slice ea i ec) i (rowsOf entCells (esC t s i))):=owns_below HE3.out bV0
   have HFV:Hid (Fr (fun g=>Z g∨Pn g) w V):=HF3.out.trans (Fr.of_below bV0)
   have HRV:Hid (V.ownsRow 0 134 3 (.slice a i c) i (rowsOf slCells (slz t (overP (t.vals.zip t.over) s).1))):=owns_below HR3.out bV0
   have hwr:=write_any P Zi (fun g=>(Value.slice ea i ec).ownBlock=some g) tx 0 num (nxtP sn).2 V (HQ3.out.below bV0) (.leaf (esC t s i)) 3 0 ⟨#[]⟩ none 0 0 ea i ec ⟨none,0,ea,ec,by rw[show (PgC.leaf (esC t s i)).ents.length=i by show (esC t s i).length=i;have:=HEV.out.1;rw[rowsOf_length (m:=4) (cs:=entCells) (fun _=>rfl)] at this;omega];rfl,⟨rfl,.inl ⟨rfl,rfl⟩⟩,by rw[show (PgC.leaf (esC t s i)).ents.length=i by show (esC t s i).length=i;have:=HEV.out.1;rw[rowsOf_length (m:=4) (cs:=entCells) (fun _=>rfl)] at this;omega];exact own_lowerT HEV.out (Nat.zero_le _),fun g e=>by simp[Value.ownBlock] at e,fun g e=>by rw[show (PgC.leaf (esC t s i)).ents.length=i by show (esC t s i).length=i;have:=HEV.out.1;rw[rowsOf_length (m:=4) (cs:=entCells) (fun _=>rfl)] at this;omega] at e;exact fun h=>h e⟩ (fun g e=>⟨(HEV.out.lt g e).2,HZI.out.2.1 g e⟩) (by rw[nxt_log];have:=HLE.out;omega)
   have hHeld:V.cell? ⟨L,0,none⟩=some (.int .i64 num)∧V.cell? ⟨w.heap.size,0,none⟩=some (.int .i64 3)∧V.cell? ⟨w.heap.size,1,none⟩=some (.int .i64 0)∧V.cell? ⟨w.heap.size,2,none⟩=some (.int .i64 0)∧V.cell? ⟨w.heap.size,3,none⟩=some (.int .i64 0)∧V.cell? ⟨w.heap.size,4,none⟩=some (.int .i64 0)∧V.cell? ⟨w.heap.size,5,none⟩=some (.slice none 0 0)∧V.cell? ⟨w.heap.size,6,none⟩=some (.slice ea i ec)∧V.cell? ⟨w.heap.size,7,none⟩=some (.int .i64 0)∧V.cell? ⟨w.heap.size,8,none⟩=some (.string ⟨#[]⟩):=⟨(box_twoG HBV.out).1,box9P HNV.out⟩
   clear bV0
   refine tY 0 (.pointer (some ⟨P,0,none⟩)) .z (by kernel_rfl) (by rfl) ?_ ‹_› ?_
   ·intro wq hSw;go_simp
   refine tY 1 (.pointer (some ⟨L,0,none⟩)) (.s .z) (by kernel_rfl) (by rfl) ?_ ‹_› ?_
   ·intro wq hSw;go_simp
   refine tY 2 (.pointer (some ⟨L,0,none⟩)) (.s (.s .z)) (by kernel_rfl) (by rfl) ?_ ‹_› ?_
   ·intro wq hSw;go_simp
   refine tY 3 (.pointer (some ⟨L,0,none⟩)) (.s (.s (.s .z))) (by kernel_rfl) (by rfl) ?_ ‹_› ?_
   ·intro wq hSw;go_simp
   try simp only[Act.put,q1,q2,q3]
   refine tY 4 (.pointer (some ⟨L,0,none⟩)) (.s (.s (.s (.s .z)))) (by kernel_rfl) (by rfl) ?_ ‹_› ?_
   ·intro wq hSw;go_simp
   refine tY 5 (.int .i64 num) (.f .z) (by kernel_rfl) (by rfl) ?_ ‹_› ?_
   ·intro wq hSw;go_simp
   refine tY 6 (.agg #[.int .i64 3,.int .i64 0,.int .i64 0,.int .i64 0,.int .i64 0,.slice none 0 0,.slice ea i ec,.int .i64 0,.string ⟨#[]⟩]) (.f (.s .z)) (by kernel_rfl) (by rfl) ?_ ‹_› ?_
   ·intro wq hSw;go_simp
   try simp only[Act.put,q1,q2,q3]
   refine wpAnyH_ready (rs:=[7]) (by kernel_rfl) (by simp) ?_
   refine rdA (.f (.s (.s .z))) (fun K hK=>?_) AllReadyH.nil
   go_simp
   refine hwr.mono ?_
   rintro e w9 ⟨rfl,Z9,hQ9,hF9,hZ9⟩
   have hB9:=(hF9.block L (Array.getElem?_eq_some_iff.1 HBV.out).1 HZI.out.2.2.2).trans HBV.out
   have hN9:=(hF9.block _ (Array.getElem?_eq_some_iff.1 HNV.out).1 HZI.out.2.2.1).trans HNV.out
   have HQ9:Hid (QW w9 P Z9 tx { (nxtP sn).2 with log:=(nxtP sn).2.log++[(num,.leaf (esC t s i))] }):=hQ9
   have HF9:Hid (Fr (fun g=>Z g∨Pn g) w w9):=HFV.out.up3 hF9 (fun g e=>(HZI.out.1 g e).elim (fun e=>.inl (.inl e)) .inr)
   have HZ9:Hid (∀ g,Z9 g->Z g∨w.heap.size<=g):=fun g e=>by
    rcases hZ9 g e with e | e | e
    ·exact HZI.out.1 g e
    ·exact .inr (by have:=(HEV.out.lt g e).1;omega)
    ·exact .inr (by have:=HFV.out.size;omega)
   have HG9:Hid (GML w9 Pn ⟨true,num,t.keys,t.vals,(overP (t.vals.zip t.over) s).1,[]⟩ L a i c):=⟨HM.out.1,hB9,owns_fr HRV.out hF9 (fun g e e2=>(HZI.out.1 g e2).elim (HPN.out g (HM.out.2 g e).1).2 (fun e3=>by have:=(HPN.out g (HM.out.2 g e).1).1;omega)),HM.out.2,HLN.out.2.2.1.symm⟩
   clear hQ9 hF9 hZ9 hwr
   go_wp2_with fail
   refine hK.out _ _ (⟨(box_twoG hB9).1,box9P hN9⟩) (fun hHeld=>?_)
   clear hK K
   try simp only[Act.put,q1,q2,q3]
   refine wpAnyH_done (by kernel_rfl) ?_ _
   refine NoPanic.normal ?_
   clear hHeld
   go_end0
   rw[HPE.out]
   exact⟨rfl,HG9.out,Z9,HQ9.out,HF9.out,HZ9.out⟩
end Go.Proofs.YtkhglgalbifcnaaGreat
