import Derived.Test.YtkhglgalbifcnaaGreatGAA
import Derived.Test.YtkhglgalbifcnaaGreatGAW
import Derived.Test.YtkhglgalbifcnaaGreatGAY
import Derived.Test.YtkhglgalbifcnaaGreatTpo
import Derived.Test.YtkhglgalbifcnaaGreatIpe
namespace Go.Proofs.YtkhglgalbifcnaaGreat
set_option maxHeartbeats 8000000
open Go.RowKit
set_option linter.unusedVariables false
set_option linter.unusedSimpArgs false
set_option maxRecDepth 100000
theorem GIs.where {w:World} {P:Nat->Prop} (t:T) (ty:TypeId) (v:Value) (h:GIs w P t (.iface ty v)):Obs w ty v "loop.example/s02098/impl.where" (.int .i64 t.page):=by
 cases hl:t.leaf
 ·obtain⟨L,a,n,c,us,e,hG⟩:=h.inner hl
  cases e
  exact⟨fun w=>by kernel_rfl,136,.pointer (some ⟨L,0,none⟩),fun w=>by kernel_rfl,fun w=>by kernel_rfl,where_g (box_twoG hG.box).1⟩
 ·obtain⟨L,a,n,c,e,hG⟩:=h.leaf hl
  cases e
  exact⟨fun w=>by kernel_rfl,136,.pointer (some ⟨L,0,none⟩),fun w=>by kernel_rfl,fun w=>by kernel_rfl,where_g (box_twoG hG.box).1⟩
theorem place_whole:∀ (t:T),t.whole=true->∀ s,(placeT t s).1.whole=true:=by
 intro t
 induction t using T.ind with
 | h t ih =>
  intro hw s
  rw[placeT_eq]
  split
  ·exact hw
  ·cases hl:t.leaf
   ·obtain⟨h1,h2⟩:=T.whole_inner hw hl
    have hk:∀ z ∈ (stepsP (t.kids.map placeT) s).1,0<z.size∧z.whole=true:=fun z hz=>by
     obtain⟨i,hi,rfl⟩:=List.mem_iff_getElem.1 hz
     have hi2:i<(t.kids.map placeT).length:=by rw[stepsP_len] at hi;exact hi
     obtain⟨s',e⟩:=stepsP_get (t.kids.map placeT) s i hi2
     rw[List.getElem?_eq_getElem hi,List.getElem?_eq_getElem hi2] at e
     simp only[Option.map_some,Option.some.injEq,List.getElem_map] at e
     rw[e,place_size]
     exact⟨(h2 _ (List.getElem_mem _)).1,ih _ (List.getElem_mem _) (h2 _ (List.getElem_mem _)).2 s'⟩
    have hne:(stepsP (t.kids.map placeT) s).1≠[]:=fun e=>h1 (by
     have h5:=stepsP_len (t.kids.map placeT) s
     rw[e] at h5
     simpa using h5.symm)
    have h3:((stepsP (t.kids.map placeT) s).1.map T.whole).all id=true:=List.all_eq_true.2 (fun b hb=>by obtain⟨z,hz,rfl⟩:=List.mem_map.1 hb;exact (hk z hz).2)
    have h4:(stepsP (t.kids.map placeT) s).1.all (fun t=>decide (0<t.size))=true:=List.all_eq_true.2 (fun z hz=>by simpa using (hk z hz).1)
    rw[T.whole_eq]
    show ((!false || _) && (false || (!(stepsP (t.kids.map placeT) s).1.isEmpty && (stepsP (t.kids.map placeT) s).1.all (fun t=>decide (0<t.size)))) && ((stepsP (t.kids.map placeT) s).1.map T.whole).all id)=true
    rw[h3,h4]
    cases hq:(stepsP (t.kids.map placeT) s).1 with
    | nil=>exact absurd hq hne
    | cons x r=>rfl
   ·obtain⟨h1,h2,h3,h4⟩:=T.whole_leaf hw hl
    rw[T.whole_eq]
    have e1:(stepsP (t.kids.map placeT) s).1=[]:=by rw[h4];rfl
    have e2:(overP (t.vals.zip t.over) (stepsP (t.kids.map placeT) s).2).1.length=t.keys.length:=by rw[overP_len];simp;omega
    show ((!true || (decide (t.vals.length=t.keys.length) && decide ((overP (t.vals.zip t.over) (stepsP (t.kids.map placeT) s).2).1.length=t.keys.length) && decide (t.keys.length<=1000) && (stepsP (t.kids.map placeT) s).1.isEmpty)) && (true || _) && ((stepsP (t.kids.map placeT) s).1.map T.whole).all id)=true
    rw[e1,e2]
    simp[h1,h3]
theorem place_len:∀ (t:T),(∃ r,t.good r=true)->Neat t->∀ s,(placeT t s).2.log.length<=s.log.length+21*t.nodes:=by
 intro t
 induction t using T.ind with
 | h t ih =>
  rintro ⟨r,hg⟩ hne s
  have hgp:=good_parts hg
  have hk:=((neat_eq t).1 hne)
  have hst:∀ (y:List T) (s:PSt),(∀ k ∈ y,k ∈ t.kids)->(stepsP (y.map placeT) s).2.log.length<=s.log.length+21*(y.map T.nodes).sum:=by
   intro y
   induction y with
   | nil=>intro s _;simp[stepsP]
   | cons k y ihy =>
    intro s hy
    have h1:=ih k (hy k (by simp)) ⟨false,hgp.2.2 k (hy k (by simp))⟩ (hk.2.2 k (hy k (by simp))) s
    have h2:=ihy (placeT k s).2 (fun z hz=>hy z (by simp[hz]))
    rw[List.map_cons,stepsP]
    simp only[List.map_cons,List.sum_cons]
    show (stepsP (y.map placeT) (placeT k s).2).2.log.length<=_
    omega
  have h0:=hst t.kids s (fun _ h=>h)
  rw[placeT_eq,T.nodes_eq]
  split
  ·show s.log.length<=_
   omega
  ·cases hl:t.leaf
   ·show ((nxtP (stepsP (t.kids.map placeT) s).2).2.log++[_]).length<=_
    rw[List.length_append,nxt_log]
    simp
    omega
   ·obtain⟨g1,g2,g3⟩:=hgp.2.1 hl
    have hk4:t.keys.length<=4:=by have:=hgp.1.2;simpa[T.size,hl] using this
    have h5:=over_len (t.vals.zip t.over) (stepsP (t.kids.map placeT) s).2 (fun x hx=>stand_400 (g3 x hx))
    have h6:(t.vals.zip t.over).length<=4:=by simp;omega
    show ((nxtP (overP (t.vals.zip t.over) (stepsP (t.kids.map placeT) s).2).2).2.log++[_]).length<=_
    rw[List.length_append,nxt_log]
    simp
    omega
def PlaceAns (P:Nat) (Z Pn:Nat->Prop) (tx:Int) (s:PSt) (t:T) (u:Value) (w:World) (e:Ending) (w':World):Prop:=e=.returned (.tuple #[])∧GM w' Pn (placeT t s).1 u∧∃ Z',QW w' P Z' tx (placeT t s).2∧Fr (fun g=>Z g∨Pn g) w w'∧∀ g,Z' g->Z g∨w.heap.size<=g
def PlaceOk (t:T):Prop:=∀ (P:Nat) (Z Pn:Nat->Prop) (tx:Int) (s:PSt) (w:World) (ty:TypeId) (v:Value),GM w Pn t (.iface ty v)->QW w P Z tx s->(∀ g,Pn g->g<w.heap.size∧¬ Z g)->s.log.length+21*t.nodes<=900000->Calls Tryz.prog 27 #[.pointer (some ⟨P,0,none⟩),.iface ty v] w fun e w'=>PlaceAns P Z Pn tx s t (.iface ty v) w e w'
structure IQ (w wr:World) (P:Nat) (Z Zi Pn:Nat->Prop) (tx:Int) (L:Nat) (a:Option Addr) (n c:Nat) (ul:List Value) (Q:Nat->Nat->Prop) (si:PSt) (ys:List T) (ka:Option Addr) (km kc:Nat) (ks:List PK):Prop where
 q:QW wr P Zi tx si
 box:wr.heap[L]?=some (.cells #[.int .i64 0,.slice a n c] 148)
 row:wr.ownsRow 0 61 1 (.slice a n c) n ul
 kid:∀ (j:Nat) k,ys[j]?=some k->GM wr (Q j) k (ul.getD j .nilIface)
 pb:wr.heap[w.heap.size]?=some (.cells #[.int .i64 2,.int .i64 0,.int .i64 0,.int .i64 0,.int .i64 0,.slice ka km kc,.slice none 0 0,.int .i64 0,.string ⟨#[]⟩] 93)
 er:wr.ownsRow (w.heap.size+1) 96 2 (.slice ka km kc) km (rowsOf kidCells ks)
 ne:∀ g,(Value.slice ka km kc).ownBlock=some g->¬ Zi g
 nN:¬ Zi w.heap.size
 zi:∀ g,Zi g->Z g∨w.heap.size<=g
 fr:Fr (fun g=>Z g∨Pn g) w wr
theorem IQ.below {w wr w1:World} {P:Nat} {Z Zi Pn:Nat->Prop} {tx:Int} {L:Nat} {a:Option Addr} {n c:Nat} {ul:List Value} {Q:Nat->Nat->Prop} {si:PSt} {ys:List T} {ka:Option Addr} {km kc:Nat} {ks:List PK} (h:IQ w wr P Z Zi Pn tx L a n c ul Q si ys ka km kc ks) (hQ:∀ i b,Q i b->b<w.heap.size) (hb:Below wr.heap.size wr w1):IQ w w1 P Z Zi Pn tx L a n c ul Q si ys ka km kc ks :=
 ⟨h.q.below hb,(hb.block L (Array.getElem?_eq_some_iff.1 h.box).1).trans h.box,owns_below h.row hb,fun j k hj=>GM.keep k (Q j) (Q j) _ (fun b hq=>hb.block b (Nat.lt_of_lt_of_le (hQ j b hq) h.fr.size)) (fun _ e=>e) (h.kid j k hj),(hb.block _ (Array.getElem?_eq_some_iff.1 h.pb).1).trans h.pb,owns_below h.er hb,h.ne,h.nN,h.zi,h.fr.trans (Fr.of_below hb)⟩
theorem IQ.step {w wr w1:World} {P:Nat} {Z Zi Z1 Pn:Nat->Prop} {tx:Int} {L:Nat} {a:Option Addr} {n c:Nat} {ul:List Value} {Q:Nat->Nat->Prop} {si s1:PSt} {ys:List T} {ka:Option Addr} {km kc:Nat} {ks:List PK} {i:Nat} {k1:T} (h:IQ w wr P Z Zi Pn tx L a n c ul Q si ys ka km kc ks) (hPn:∀ g,Pn g->g<w.heap.size∧¬ Z g) (hPL:Pn L) (hdis:∀ i j b,Q i b->Q j b->i=j) (hsub:∀ i b,Q i b->Pn b∧b≠L∧(Value.slice a n c).ownBlock≠some b) (hrb:∀ g,(Value.slice a n c).ownBlock=some g->Pn g∧g≠L)
  (hg:GM w1 (Q i) k1 (ul.getD i .nilIface)) (hq:QW w1 P Z1 tx s1) (hf:Fr (fun g=>Zi g∨Q i g) wr w1) (hz:∀ g,Z1 g->Zi g∨wr.heap.size<=g):IQ w w1 P Z Z1 Pn tx L a n c ul Q s1 (ys.set i k1) ka km kc ks:=by
 have lN:=(Array.getElem?_eq_some_iff.1 h.pb).1
 have lL:=(Array.getElem?_eq_some_iff.1 h.box).1
 have nz:∀ g,Pn g->¬ Zi g:=fun g hg e=>(h.zi g e).elim (hPn g hg).2 (fun e=>by have:=(hPn g hg).1;omega)
 have nQ:∀ g,w.heap.size<=g->¬ Q i g:=fun g hg e=>by have:=(hPn g (hsub i g e).1).1;omega
 refine⟨hq,(hf.block L lL (fun e=>e.elim (nz L hPL) (fun e=>(hsub i L e).2.1 rfl))).trans h.box,owns_fr h.row hf (fun g e e2=>e2.elim (nz g (hrb g e).1) (fun e2=>(hsub i g e2).2.2 e)),fun j k hj=>?_,(hf.block _ lN (fun e=>e.elim h.nN (nQ _ (Nat.le_refl _)))).trans h.pb,owns_fr h.er hf (fun g e e2=>e2.elim (h.ne g e) (nQ g (by have:=(h.er.lt g e).1;omega))),fun g e e2=>?_,fun e=>?_,fun g e=>?_,h.fr.up3 hf (fun g e=>?_)⟩
 ·by_cases hji:j=i
  ·subst hji
   have hlt:=(List.getElem?_eq_some_iff.1 hj).1
   rw[List.getElem?_set_self (by simpa using hlt)] at hj
   simp only[Option.some.injEq] at hj
   subst hj
   exact hg
  ·rw[List.getElem?_set_ne (fun e=>hji e.symm)] at hj
   exact GM.keep k (Q j) (Q j) _ (fun b hb=>hf.block b (Nat.lt_of_lt_of_le (hPn b (hsub j b hb).1).1 h.fr.size) (fun e=>e.elim (nz b (hsub j b hb).1) (fun e=>hji (hdis j i b hb e)))) (fun _ e=>e) (h.kid j k hj)
 ·rcases hz g e2 with e3 | e3
  ·exact h.ne g e e3
  ·have:=(h.er.lt g e).2;omega
 ·rcases hz _ e with e3 | e3
  ·exact h.nN e3
  ·omega
 ·rcases hz g e with e3 | e3
  ·exact h.zi g e3
  ·exact .inr (by omega)
 ·rcases e with e | e
  ·exact (h.zi g e).elim (fun e=>.inl (.inl e)) .inr
  ·exact .inl (.inr (hsub i g e).1)
theorem IQ.add {w wr w1:World} {P:Nat} {Z Zi Pn:Nat->Prop} {tx:Int} {L:Nat} {a:Option Addr} {n c:Nat} {ul:List Value} {Q:Nat->Nat->Prop} {si:PSt} {ys:List T} {ka ka':Option Addr} {km kc kc':Nat} {ks:List PK} {x:PK} (h:IQ w wr P Z Zi Pn tx L a n c ul Q si ys ka km kc ks) (hPn:∀ g,Pn g->g<w.heap.size∧¬ Z g) (hPL:Pn L) (hQ:∀ i b,Q i b->b<w.heap.size) (ho:w1.ownsRow (w.heap.size+1) 96 2 (.slice ka' (km+1) kc') (km+1) (rowsOf kidCells ks++kidCells x)) (hg:wr.grownBy w1 (Value.slice ka km kc).ownBlock) (hl:(Value.slice ka' (km+1) kc').ownBlock=(Value.slice ka km kc).ownBlock∨∀ g,(Value.slice ka' (km+1) kc').ownBlock=some g->wr.heap.size<=g) :
  IQ w (w1.setCell ⟨w.heap.size,5,none⟩ (.slice ka' (km+1) kc')) P Z Zi Pn tx L a n c ul Q si ys ka' (km+1) kc' (ks++[x]):=by
 have lN:=(Array.getElem?_eq_some_iff.1 h.pb).1
 have lL:=(Array.getElem?_eq_some_iff.1 h.box).1
 have G1:Fr (fun g=>(Value.slice ka km kc).ownBlock=some g) wr w1:=Fr.of_grown hg (fun g e=>e)
 have F1:=fr_setT w1 w.heap.size 5 (.slice ka' (km+1) kc')
 have hf:Fr (fun g=>(Value.slice ka km kc).ownBlock=some g∨g=w.heap.size) wr (w1.setCell ⟨w.heap.size,5,none⟩ (.slice ka' (km+1) kc')):=(G1.weak (fun g e=>.inl e)).trans (F1.weak (fun g e=>.inr e))
 have hlo:∀ g,((Value.slice ka km kc).ownBlock=some g∨g=w.heap.size)->w.heap.size<=g:=fun g e=>e.elim (fun e=>by have:=(h.er.lt g e).1;omega) (fun e=>by omega)
 have pb1:=(G1.block _ lN (fun e=>own_ne_ty h.er h.pb (by decide) e)).trans h.pb
 refine⟨h.q.fr hf (fun g hg e=>e.elim (fun e=>h.ne g e hg) (fun e=>h.nN (e ▸ hg))),(hf.block L lL (fun e=>by have h1:=hlo L e;have h2:=(hPn L hPL).1;omega)).trans h.box,owns_fr h.row hf (fun g e e2=>?_),fun j k hj=>GM.keep k (Q j) (Q j) _ (fun b hb=>hf.block b (Nat.lt_of_lt_of_le (hQ j b hb) h.fr.size) (fun e=>by have h1:=hlo b e;have h2:=hQ j b hb;omega)) (fun _ e=>e) (h.kid j k hj),by rw[heap_setT pb1];rfl,?_,fun g e e2=>?_,h.nN,h.zi,h.fr.up3 hf (fun g e=>.inr (hlo g e))⟩
 ·rcases e2 with e2 | e2
  ·exact rows_neI h.row h.er (by decide) e e2
  ·rw[e2] at e;exact own_ne_ty h.row h.pb (by decide) e
 ·rw[rowsOf_append]
  have:w1.ownsRow (w.heap.size+1) 96 2 (.slice ka' (km+1) kc') (km+1) (rowsOf kidCells ks++rowsOf kidCells [x]):=by
   have e:rowsOf kidCells [x]=kidCells x:=by simp[rowsOf]
   rw[e];exact ho
  exact owns_fr this F1 (fun g e e2=>by have:=(ho.lt g e).1;omega)
 ·rcases hl with q | q
  ·rw[q] at e;exact h.ne g e e2
  ·have h1:=q g e;have h2:=h.q.lt g e2;omega
theorem cell_two_newI (w:World) (a b:Value) (t:TypeId):∀ j u,[a,b][j]?=some u->(w.alloc (.cells #[a,b] t)).cell? ((⟨w.heap.size,0,none⟩:Addr).add j)=some u:=by
 intro j u h
 match j,h with
 | 0,h=>simpa[Addr.add] using h
 | 1,h=>simpa[Addr.add] using h
theorem kids_setI {y ys:List T} {i:Nat} {x:T} (h:ys.length=i) (h2:i<y.length):(ys++y.drop i).set i x=(ys++[x])++y.drop (i+1):=by
 subst h
 rw[List.set_append_right _ _ (Nat.le_refl _),Nat.sub_self,List.drop_eq_getElem_cons h2,List.set_cons_zero,List.append_assoc]
 rfl
theorem placeInner_any (t:T) (hl:t.leaf=false) (hp:t.page=0) (hg:∃ r,t.good r=true) (hne:Neat t) (ih:∀ k ∈ t.kids,PlaceOk k) (hw:t.whole=true) (P:Nat) (Z Pn:Nat->Prop) (tx:Int) (s:PSt) (w:World) (L:Nat) (a:Option Addr) (n c:Nat) (ul:List Value) (Q:Nat->Nat->Prop) (hM:GMI w Pn t L a n c ul Q) (h:QW w P Z tx s) (hPn:∀ g,Pn g->g<w.heap.size∧¬ Z g) (hlen:s.log.length+21*t.nodes<=900000) :
  Calls Tryz.prog 56 #[.pointer (some ⟨P,0,none⟩),.pointer (some ⟨L,0,none⟩)] w fun e w'=>e=.returned (.tuple #[])∧GMI w' Pn (placeT t s).1 L a n c ul Q∧∃ Z',QW w' P Z' tx (placeT t s).2∧Fr (fun g=>Z g∨Pn g) w w'∧∀ g,Z' g->Z g∨w.heap.size<=g:=by
 obtain⟨r,hg⟩:=hg
 have hgp:=good_parts hg
 have hk4:t.kids.length<=4:=by have:=hgp.1.2;simpa[T.size,hl] using this
 have hkn:=hM.len
 have hn4:n<=4:=by omega
 obtain⟨_,_,hov,_⟩:=((neat_eq t).1 hne).2.1 hl
 have HPL:Hid (placeT t s=endP false t.keys t.vals (stepsP (t.kids.map placeT) s).1 (t.over,(stepsP (t.kids.map placeT) s).2)):=by show _=_;rw[placeT_eq,if_neg (by simp[hp]),hl];rfl
 have HKN:Hid (t.kids.length=n):=hkn.symm
 have HGD:Hid (∀ k ∈ t.kids,(∃ r,k.good r=true)∧Neat k):=fun k hk=>⟨⟨false,hgp.2.2 k hk⟩,((neat_eq t).1 hne).2.2 k hk⟩
 have HWH:Hid (∀ k ∈ t.kids,0<k.size∧k.whole=true):=(T.whole_inner hw hl).2
 have HIH:Hid (∀ k ∈ t.kids,PlaceOk k):=ih
 have HST:Hid (∀ i,(stepsP ((t.kids.take i).map placeT) s).2.log.length<=s.log.length+21*((t.kids.take i).map T.nodes).sum):=by
  have hst:∀ (y:List T) (s:PSt),(∀ k ∈ y,k ∈ t.kids)->(stepsP (y.map placeT) s).2.log.length<=s.log.length+21*(y.map T.nodes).sum:=by
   intro y
   induction y with
   | nil=>intro s _;simp[stepsP]
   | cons k y ihy =>
    intro s hy
    have h1:=place_len k ⟨false,hgp.2.2 k (hy k (by simp))⟩ (((neat_eq t).1 hne).2.2 k (hy k (by simp))) s
    have h2:=ihy (placeT k s).2 (fun z hz=>hy z (by simp[hz]))
    rw[List.map_cons,stepsP]
    simp only[List.map_cons,List.sum_cons]
    show (stepsP (y.map placeT) (placeT k s).2).2.log.length<=_
    omega
  exact fun i=>hst _ s (fun k hk=>List.mem_of_mem_take hk)
 have HND:Hid (s.log.length+21*(1+(t.kids.map T.nodes).sum)<=900000):=by rw[T.nodes_eq] at hlen;exact hlen
 obtain⟨W,hW⟩:∃ W,W=w.alloc (.cells #[.int .i64 2,.int .i64 0,.int .i64 0,.int .i64 0,.int .i64 0,.slice none 0 0,.slice none 0 0,.int .i64 0,.string ⟨#[]⟩] 93):=⟨_,rfl⟩
 have b1:Below w.heap.size w W:=by rw[hW];exact (Below.refl w.heap.size w).alloc (Nat.le_refl _) _
 have hbx:W.heap[w.heap.size]?=some (.cells #[.int .i64 2,.int .i64 0,.int .i64 0,.int .i64 0,.int .i64 0,.slice none 0 0,.slice none 0 0,.int .i64 0,.string ⟨#[]⟩] 93):=by rw[hW];exact heap_alloc_new w _
 have hb0:=hM.box
 rw[hp] at hb0
 have lL:L<w.heap.size:=(hPn L hM.at').1
 have HLZ:Hid (∀ g,Z g->g<w.heap.size):=h.lt
 have HPN:Hid (∀ g,Pn g->g<w.heap.size∧¬ Z g):=hPn
 have HQB:Hid (∀ i b,Q i b->b<w.heap.size):=fun i b hb=>(hPn b (hM.sub i b hb).1).1
 have H0:Hid (IQ w W P Z Z Pn tx L a n c ul Q (stepsP ((t.kids.take 0).map placeT) s).2 ((stepsP ((t.kids.take 0).map placeT) s).1++t.kids.drop 0) none 0 0 (kidsC (stepsP ((t.kids.take 0).map placeT) s).1)) :=
  ⟨h.below b1,(b1.block L lL).trans hb0,owns_below hM.row b1,fun j k hj=>GM.keep k (Q j) (Q j) _ (fun b hq=>b1.block b (hPn b (hM.sub j b hq).1).1) (fun _ e=>e) (hM.kid j k (List.mem_of_getElem? hj) hj),hbx,⟨rfl,.inl ⟨rfl,rfl⟩⟩,fun g e=>by simp[Value.ownBlock] at e,fun e=>by have:=h.lt _ e;omega,fun g e=>.inl e,Fr.of_below b1⟩
 have HM:Hid (Pn L∧(∀ g,(Value.slice a n c).ownBlock=some g->Pn g∧g≠L)∧(∀ i j b,Q i b->Q j b->i=j)∧∀ i b,Q i b->Pn b∧b≠L∧(Value.slice a n c).ownBlock≠some b):=⟨hM.at',hM.blk,hM.dis,hM.sub⟩
 have HOV:Hid (t.over=[]):=hov
 obtain⟨ik,hik,he0,he1,he2⟩:=info_parts info_KidP
 obtain⟨c0,c1⟩:=box_twoG ((b1.block L lL).trans hb0)
 have lLW:L<W.heap.size:=Nat.lt_of_lt_of_le lL b1.size
 clear h hM hPn hlen hgp hk4 hkn hne hg hbx b1 hb0 hl hp hov ih hw
 go_enter Tryz.func56,Tryz.ntmps56
 go_upto_region 1 with fail
 rw[<-hW]
 clear hW
 go_wp2_with fail
 go_loopw [14] (fun k wr=>∃ (i:Nat) (Zi:Nat->Prop) (ka:Option Addr) (kc:Nat),i<=n∧k=.int .i64 (i:Int)∧Hid (IQ w wr P Z Zi Pn tx L a n c ul Q (stepsP ((t.kids.take i).map placeT) s).2 ((stepsP ((t.kids.take i).map placeT) s).1++t.kids.drop i) ka i kc (kidsC (stepsP ((t.kids.take i).map placeT) s).1))) (fun k _=>n - (intOf k).toNat)
 case atStart=>exact⟨0,Z,none,0,Nat.zero_le _,rfl,H0⟩
 case round =>
  clear H0 c0 c1 lLW
  obtain⟨i,Zi,ka,kc,hi,rfl,HQ⟩:=hrel
  by_cases hlt:i<n
  ·obtain⟨G,rfl⟩:=owns_someD HQ.out.row (by omega)
   obtain⟨kd,hkd⟩:∃ kd,t.kids[i]?=some kd:=⟨_,List.getElem?_eq_getElem (by have:=HKN.out;omega)⟩
   have hkm:kd ∈ t.kids:=List.mem_of_getElem? hkd
   obtain⟨si,hsi⟩:∃ si,(stepsP ((t.kids.take i).map placeT) s).2=si:=⟨_,rfl⟩
   obtain⟨y0,hy0⟩:∃ y0,(stepsP ((t.kids.take i).map placeT) s).1=y0:=⟨_,rfl⟩
   have HY0:Hid (y0.length=i):=by show _=_;rw[<-hy0,stepsP_len];have:=HKN.out;simp;omega
   have HEQ:Hid (stepsP ((t.kids.take (i+1)).map placeT) s=(y0++[(placeT kd si).1],(placeT kd si).2)):=by
    show _=_
    have e1:t.kids.take (i+1)=t.kids.take i++[kd]:=by rw[List.take_add_one,hkd];rfl
    rw[e1,steps_snoc,hy0,hsi]
   have HYS:Hid ((y0++t.kids.drop i).set i (placeT kd si).1=(y0++[(placeT kd si).1])++t.kids.drop (i+1)):=kids_setI HY0.out (by have:=HKN.out;omega)
   have hgk:GM wr (Q i) kd (ul.getD i .nilIface):=HQ.out.kid i kd (by
    have h2:=HY0.out
    rw[hy0,List.getElem?_append_right (by omega),h2,Nat.sub_self,List.getElem?_drop]
    simpa using hkd)
   have HLB:Hid (si.log.length+21*kd.nodes<=900000):=by
    have h1:=HST.out i
    rw[hsi] at h1
    have h2:=sum_takeN t.kids i kd hkd
    have h3:=HND.out
    show _<=_
    omega
   rw[hsi,hy0] at HQ
   obtain⟨ty,vv,hu⟩:=hgk.shape
   rw[hu] at hgk
   have hcell:wr.cell? ⟨G,i,none⟩=some (.iface ty vv):=by
    rw[HQ.out.row.cellAt i (by omega)]
    have:=HQ.out.row.1
    rw[<-hu]
    simp[List.getD,show i<ul.length by omega]
   have lG:G<wr.heap.size:=(HQ.out.row.lt G rfl).2
   have hpl:=HIH.out kd hkm P Zi (Q i) tx si wr ty vv hgk HQ.out.q (fun g hg=>⟨Nat.lt_of_lt_of_le (HQB.out i g hg) HQ.out.fr.size,fun e=>(HQ.out.zi g e).elim (HPN.out g (HM.out.2.2.2 i g hg).1).2 (fun e=>by have:=HQB.out i g hg;omega)⟩) HLB.out
   have HU:Hid (ul.getD i .nilIface=.iface ty vv):=hu
   obtain⟨kp,hkp⟩:∃ kp,(placeT kd si).1=kp:=⟨_,rfl⟩
   have HKP:Hid ((placeT kd si).1=kp∧kp.low=kd.low∧0<kp.size∧kp.whole=true):=⟨hkp,by rw[<-hkp,place_low],by rw[<-hkp,place_size];exact (HWH.out kd hkm).1,by rw[<-hkp];exact place_whole kd (HWH.out kd hkm).2 si⟩
   clear hsi hy0 hu hgk hkp hkd hkm
   go_wp2_with fail
   refine hpl.mono ?_
   rintro e w1 ⟨rfl,hg1,Z1,hq1,hf1,hz1⟩
   rw[HKP.out.1] at hg1
   have HQ1:Hid (IQ w w1 P Z Z1 Pn tx L (some ⟨G,0,none⟩) n c ul Q (placeT kd si).2 ((y0++t.kids.drop i).set i kp) ka i kc (kidsC y0)):=HQ.out.step HPN.out HM.out.1 HM.out.2.2.1 HM.out.2.2.2 HM.out.2.1 (by rw[HU.out];exact hg1) hq1 hf1 hz1
   have HG1:Hid (GM w1 (Q i) kp (.iface ty vv)):=hg1
   have hs1:w.heap.size<w1.heap.size:=(Array.getElem?_eq_some_iff.1 HQ1.out.pb).1
   obtain⟨ha,f,rr,hmt,hcf,hcall⟩:=GIs.where kp ty vv (GM.see _ _ _ hg1)
   obtain⟨pg,hpg⟩:∃ pg,kp.page=pg:=⟨_,rfl⟩
   rw[hpg] at hcall
   have HPG:Hid (kp.page=pg):=hpg
   clear hg1 hq1 hf1 hz1 hpl HQ hpg hcell lG
   go_wp2_with fail
   refine hcall.mono ?_
   rintro e w2 ⟨rfl,rfl⟩
   clear hcall hcf hmt ha
   by_cases hi0:i=0
   ·subst hi0
    have HSN:Hid (kidsC (y0++[kp])=kidsC y0++[(ByteArray.empty,pg)]):=by show _=_;rw[kids_snocC,if_pos HY0.out,HPG.out]
    go_upto_region 8 with fail
    have hA1:=(Below.refl w2.heap.size w2).alloc (Nat.le_refl _) (.cells #[.string ⟨#[]⟩,.int .i64 pg] 96)
    have kk1:=heap_alloc_new w2 (.cells #[.string ⟨#[]⟩,.int .i64 pg] 96)
    have HQ8:=Hid.i (HQ1.out.below HQB.out hA1)
    have hs8:=hA1.size
    generalize w2.alloc (.cells #[.string ⟨#[]⟩,.int .i64 pg] 96)=W8 at hA1 kk1 HQ8 hs8 ⊢
    obtain⟨X,hX⟩:∃ X,X=W8.alloc (.cells #[.string ⟨#[]⟩,.int .i64 pg] 96):=⟨_,rfl⟩
    have hA2:Below W8.heap.size W8 X:=by rw[hX];exact (Below.refl _ _).alloc (Nat.le_refl _) _
    have HQX:=Hid.i (HQ8.out.below HQB.out hA2)
    have hsX:=hA2.size
    have hcn:∀ j u,[Value.string ⟨#[]⟩,.int .i64 pg][j]?=some u->X.cell? ((⟨W8.heap.size,0,none⟩:Addr).add j)=some u:=by rw[hX];exact cell_two_newI _ _ _ _
    obtain⟨p0,p1,p2,p3,p4,p5,p6,p7,p8⟩:=box9P HQ8.out.pb
    have lN2:w.heap.size<W8.heap.size:=(Array.getElem?_eq_some_iff.1 HQ8.out.pb).1
    obtain⟨x0,x1⟩:=box_twoG kk1
    have lK2:w2.heap.size<W8.heap.size:=(Array.getElem?_eq_some_iff.1 kk1).1
    clear kk1 hA1 hA2
    go_wp2_with (at_builtin;rw[<-hX];refine wpList_append_ownD _ rfl _ _ 90 rfl (w.heap.size+1) 96 ik _ 2 24 Tryz.underlying90 hik he0 he1 he2 rfl (by decide) (.slice ka 0 kc) 0 _ rfl HQX.out.er ⟨W8.heap.size,0,none⟩ 1 1 [.string ⟨#[]⟩,.int .i64 pg] rfl rfl hcn (by simp[Value.oneCell']) (by unfold maxLen;omega) (by omega) (by omega) ?_;intro v9 w9 ho9 hg9 hl9;obtain⟨g9,c9,rfl⟩:=own_shape ho9;have hb9:w9.heap[w.heap.size]?=_:=(hg9.block _ (by omega) (fun e=>own_ne_ty HQX.out.er HQX.out.pb (by decide) e.symm)).trans HQX.out.pb;have f9:=thawT hb9;obtain⟨z0,z1,z2,z3,z4,z5,z6,z7,z8⟩:=box9P hb9;have l9:w.heap.size<w9.heap.size:=(Array.getElem?_eq_some_iff.1 hb9).1)
    have HL9:=Hid.i (HQX.out.add (x:=(ByteArray.empty,pg)) HPN.out HM.out.1 HQB.out ho9 hg9 hl9)
    clear ho9 hg9 hl9 hb9 p0 p1 p2 p3 p4 p5 p6 p7 p8 x0 x1 z0 z1 z2 z3 z4 z5 z6 z7 z8 f9 l9 lN2 lK2 hcn hX
    go_wp2_with fail
    go_roundw
    case rel=>exact⟨0+1,Z1,g9,c9,by omega,by go_num,by show IQ _ _ _ _ _ _ _ _ _ _ _ _ _ _ _ _ _ _ _;rw[HEQ.out,HKP.out.1,HSN.out];have:=HYS.out;rw[HKP.out.1] at this;rw[<-this];exact HL9.out⟩
    case measure=>simp[intOf];omega
   ·obtain⟨lo,hlo⟩:∃ lo,kp.low=lo:=⟨_,rfl⟩
    have HSN:Hid (kidsC (y0++[kp])=kidsC y0++[(lo,pg)]):=by show _=_;rw[kids_snocC,if_neg (by rw[HY0.out];exact hi0),HPG.out,hlo]
    have HLO:Hid (kp.low=lo):=hlo
    clear hlo
    have hbk:=(Below.refl w2.heap.size w2).alloc (Nat.le_refl _) (.cells #[.string ⟨#[]⟩,.int .i64 pg] 96)
    obtain⟨ha,f2,r2,hmt,hcf,hcall⟩:=GIs.least kp ty vv HKP.out.2.2.2 HKP.out.2.2.1 (GM.see _ _ _ (GM.keep (w':=w2.alloc (.cells #[.string ⟨#[]⟩,.int .i64 pg] 96)) kp (Q i) (Q i) _ (fun b hb=>hbk.block b (Nat.lt_trans (HQB.out i b hb) hs1)) (fun _ e=>e) HG1.out))
    rw[HLO.out] at hcall
    clear hbk
    go_wp2_with fail
    refine hcall.mono ?_
    rintro e w3 ⟨rfl,rfl⟩
    clear hcall hcf hmt ha
    go_upto_region 8 with fail
    have hA1:=(Below.refl w2.heap.size w2).alloc (Nat.le_refl _) (.cells #[.string lo,.int .i64 pg] 96)
    have kk1:=heap_alloc_new w2 (.cells #[.string lo,.int .i64 pg] 96)
    have HQ8:=Hid.i (HQ1.out.below HQB.out hA1)
    have hs8:=hA1.size
    generalize w2.alloc (.cells #[.string lo,.int .i64 pg] 96)=W8 at hA1 kk1 HQ8 hs8 ⊢
    obtain⟨X,hX⟩:∃ X,X=W8.alloc (.cells #[.string lo,.int .i64 pg] 96):=⟨_,rfl⟩
    have hA2:Below W8.heap.size W8 X:=by rw[hX];exact (Below.refl _ _).alloc (Nat.le_refl _) _
    have HQX:=Hid.i (HQ8.out.below HQB.out hA2)
    have hsX:=hA2.size
    have hcn:∀ j u,[Value.string lo,.int .i64 pg][j]?=some u->X.cell? ((⟨W8.heap.size,0,none⟩:Addr).add j)=some u:=by rw[hX];exact cell_two_newI _ _ _ _
    obtain⟨p0,p1,p2,p3,p4,p5,p6,p7,p8⟩:=box9P HQ8.out.pb
    have lN2:w.heap.size<W8.heap.size:=(Array.getElem?_eq_some_iff.1 HQ8.out.pb).1
    obtain⟨x0,x1⟩:=box_twoG kk1
    have lK2:w2.heap.size<W8.heap.size:=(Array.getElem?_eq_some_iff.1 kk1).1
    clear kk1 hA1 hA2
    go_wp2_with (at_builtin;rw[<-hX];refine wpList_append_ownD _ rfl _ _ 90 rfl (w.heap.size+1) 96 ik _ 2 24 Tryz.underlying90 hik he0 he1 he2 rfl (by decide) (.slice ka i kc) i _ rfl HQX.out.er ⟨W8.heap.size,0,none⟩ 1 1 [.string lo,.int .i64 pg] rfl rfl hcn (by simp[Value.oneCell']) (by unfold maxLen;omega) (by omega) (by omega) ?_;intro v9 w9 ho9 hg9 hl9;obtain⟨g9,c9,rfl⟩:=own_shape ho9;have hb9:w9.heap[w.heap.size]?=_:=(hg9.block _ (by omega) (fun e=>own_ne_ty HQX.out.er HQX.out.pb (by decide) e.symm)).trans HQX.out.pb;have f9:=thawT hb9;obtain⟨z0,z1,z2,z3,z4,z5,z6,z7,z8⟩:=box9P hb9;have l9:w.heap.size<w9.heap.size:=(Array.getElem?_eq_some_iff.1 hb9).1)
    have HL9:=Hid.i (HQX.out.add (x:=(lo,pg)) HPN.out HM.out.1 HQB.out ho9 hg9 hl9)
    clear ho9 hg9 hl9 hb9 p0 p1 p2 p3 p4 p5 p6 p7 p8 x0 x1 z0 z1 z2 z3 z4 z5 z6 z7 z8 f9 l9 lN2 lK2 hcn hX
    go_wp2_with fail
    go_roundw
    case rel=>exact⟨i+1,Z1,g9,c9,by omega,by go_num,by show IQ _ _ _ _ _ _ _ _ _ _ _ _ _ _ _ _ _ _ _;rw[HEQ.out,HKP.out.1,HSN.out];have:=HYS.out;rw[HKP.out.1] at this;rw[<-this];exact HL9.out⟩
    case measure=>simp[intOf];omega
  ·obtain rfl:i=n:=by omega
   have htk:=take_any P Zi tx _ wr HQ.out.q
   obtain⟨sn,hsn⟩:∃ sn,(stepsP ((t.kids.take i).map placeT) s).2=sn:=⟨_,rfl⟩
   obtain⟨num,hnum⟩:∃ num,(nxtP sn).1=num:=⟨_,rfl⟩
   rw[hsn,hnum] at htk
   have HTA:Hid (t.kids.take i=t.kids∧t.kids.drop i=[]):=⟨List.take_of_length_le (by have:=HKN.out;omega),List.drop_eq_nil_of_le (by have:=HKN.out;omega)⟩
   have HPE:Hid (placeT t s=(⟨false,num,t.keys,t.vals,t.over,(stepsP (t.kids.map placeT) s).1⟩,{ (nxtP sn).2 with log:=(nxtP sn).2.log++[(num,.branch (kidsC (stepsP (t.kids.map placeT) s).1))] })):=by
    have e1:(stepsP (t.kids.map placeT) s).2=sn:=by rw[<-hsn,HTA.out.1]
    show _=_
    rw[HPL.out]
    unfold endP pageP
    simp only[e1,hnum,Bool.false_eq_true,if_false]
   have HLE:Hid (sn.log.length<=999000):=by
    have h1:=HST.out i
    rw[hsn,HTA.out.1] at h1
    have h2:=HND.out
    show _<=_
    omega
   rw[hsn,HTA.out.1,HTA.out.2,List.append_nil] at HQ
   obtain⟨yp,hyp⟩:∃ yp,(stepsP (t.kids.map placeT) s).1=yp:=⟨_,rfl⟩
   have HYP:Hid (yp.length=i):=by show _=_;rw[<-hyp,stepsP_len,List.length_map];exact HKN.out
   rw[hyp] at HQ HPE
   clear hsn hnum hyp
   go_wp2_with fail
   refine htk.mono ?_
   rintro e w2 ⟨rfl,hQ2,hF2⟩
   have hPz:Zi P:=HQ.out.q.zp
   have nL:¬ Zi L:=fun e=>(HQ.out.zi L e).elim (HPN.out L HM.out.1).2 (fun e=>by omega)
   have lLr:L<wr.heap.size:=(Array.getElem?_eq_some_iff.1 HQ.out.box).1
   have hb2:w2.heap[L]?=_:=(hF2.block L lLr (fun e=>nL (e ▸ hPz))).trans HQ.out.box
   have f2:=thawT hb2
   obtain⟨d0,d1⟩:=box_twoG hb2
   have l2:L<w2.heap.size:=(Array.getElem?_eq_some_iff.1 hb2).1
   have lN:w.heap.size<wr.heap.size:=(Array.getElem?_eq_some_iff.1 HQ.out.pb).1
   have F3:=fr_setT w2 L 0 (.int .i64 num)
   have F23:Fr (fun g=>g=P∨g=L) wr (w2.setCell ⟨L,0,none⟩ (.int .i64 num)):=(hF2.weak (fun g e=>.inl e)).trans (F3.weak (fun g e=>.inr e))
   have nPn:∀ g,Pn g->g≠P:=fun g hg e=>(HQ.out.zi P hPz).elim (fun e3=>(HPN.out g hg).2 (e ▸ e3)) (fun e3=>by have:=(HPN.out g hg).1;omega)
   have HQ3:Hid (QW (w2.setCell ⟨L,0,none⟩ (.int .i64 num)) P Zi tx (nxtP sn).2):=hQ2.fr F3 (fun g hg e=>nL (e ▸ hg))
   have HB3:Hid ((w2.setCell ⟨L,0,none⟩ (.int .i64 num)).heap[L]?=some (.cells #[.int .i64 num,.slice a i c] 148)):=by show _=_;rw[heap_setT hb2];rfl
   have HN3:Hid ((w2.setCell ⟨L,0,none⟩ (.int .i64 num)).heap[w.heap.size]?=some (.cells #[.int .i64 2,.int .i64 0,.int .i64 0,.int .i64 0,.int .i64 0,.slice ka i kc,.slice none 0 0,.int .i64 0,.string ⟨#[]⟩] 93)):=(F23.block _ lN (fun e=>e.elim (fun e=>HQ.out.nN (e ▸ hPz)) (fun e=>by omega))).trans HQ.out.pb
   have HE3:Hid ((w2.setCell ⟨L,0,none⟩ (.int .i64 num)).ownsRow (w.heap.size+1) 96 2 (.slice ka i kc) i (rowsOf kidCells (kidsC yp))):=owns_fr HQ.out.er F23 (fun g e e2=>e2.elim (fun e2=>HQ.out.ne g e (e2 ▸ hPz)) (fun e2=>by have:=(HQ.out.er.lt g e).1;omega))
   have HR3:Hid ((w2.setCell ⟨L,0,none⟩ (.int .i64 num)).ownsRow 0 61 1 (.slice a i c) i ul):=owns_fr HQ.out.row F23 (fun g e e2=>e2.elim (nPn g (HM.out.2.1 g e).1) (HM.out.2.1 g e).2)
   have HK3:Hid (∀ (j:Nat) k,yp[j]?=some k->GM (w2.setCell ⟨L,0,none⟩ (.int .i64 num)) (Q j) k (ul.getD j .nilIface)):=fun j k hj=>GM.keep k (Q j) (Q j) _ (fun b hb=>F23.block b (Nat.lt_of_lt_of_le (HQB.out j b hb) HQ.out.fr.size) (fun e=>e.elim (nPn b (HM.out.2.2.2 j b hb).1) (HM.out.2.2.2 j b hb).2.1)) (fun _ e=>e) (HQ.out.kid j k hj)
   have HF3:Hid (Fr (fun g=>Z g∨Pn g) w (w2.setCell ⟨L,0,none⟩ (.int .i64 num))):=HQ.out.fr.up3 F23 (fun g e=>e.elim (fun e=>(HQ.out.zi g (e ▸ hPz)).elim (fun e=>.inl (.inl e)) .inr) (fun e=>.inl (.inr (e ▸ HM.out.1))))
   have HZI:Hid ((∀ g,Zi g->Z g∨w.heap.size<=g)∧(∀ g,(Value.slice ka i kc).ownBlock=some g->¬ Zi g)∧¬ Zi w.heap.size∧¬ Zi L):=⟨HQ.out.zi,HQ.out.ne,HQ.out.nN,nL⟩
   clear hQ2 hF2 htk hb2 F3 F23 HQ nL hPz nPn
   go_upto_region 11 with fail
   clear f2 d0 d1 l2
   generalize w2.setCell ⟨L,0,none⟩ (.int .i64 num)=W7 at *
   have bV0:=(Below.refl W7.heap.size W7).drew
   obtain⟨y0,y1⟩:=box_twoG HB3.out
   have hsc:=box9P HN3.out
   refine wp_region_noPanic ?_
   refine wp_region_held_drew (S:=(fun V:World=>V.cell? ⟨L,0,none⟩=some (.int .i64 num)∧V.cell? ⟨w.heap.size,0,none⟩=some (.int .i64 2)∧V.cell? ⟨w.heap.size,1,none⟩=some (.int .i64 0)∧V.cell? ⟨w.heap.size,2,none⟩=some (.int .i64 0)∧V.cell? ⟨w.heap.size,3,none⟩=some (.int .i64 0)∧V.cell? ⟨w.heap.size,4,none⟩=some (.int .i64 0)∧V.cell? ⟨w.heap.size,5,none⟩=some (.slice ka i kc)∧V.cell? ⟨w.heap.size,6,none⟩=some (.slice none 0 0)∧V.cell? ⟨w.heap.size,7,none⟩=some (.int .i64 0)∧V.cell? ⟨w.heap.size,8,none⟩=some (.string ⟨#[]⟩))) (by kernel_rfl) (⟨y0,hsc⟩) (fun hHeld=>?_)
   clear hHeld y0 y1 hsc
   generalize W7.drew=V at bV0 ⊢
   have HVB:Hid (Below W7.heap.size W7 V):=bV0
   have HBV:Hid (V.heap[L]?=some (.cells #[.int .i64 num,.slice a i c] 148)):=(bV0.block L (Array.getElem?_eq_some_iff.1 HB3.out).1).trans HB3.out
   have HNV:Hid (V.heap[w.heap.size]?=some (.cells #[.int .i64 2,.int .i64 0,.int .i64 0,.int .i64 0,.int .i64 0,.slice ka i kc,.slice none 0 0,.int .i64 0,.string ⟨#[]⟩] 93)):=(bV0.block _ (Array.getElem?_eq_some_iff.1 HN3.out).1).trans HN3.out
   have HEV:Hid (V.ownsRow (w.heap.size+1) 96 2 (.slice ka i kc) i (rowsOf kidCells (kidsC yp))):=owns_below HE3.out bV0
   have HFV:Hid (Fr (fun g=>Z g∨Pn g) w V):=HF3.out.trans (Fr.of_below bV0)
   have HRV:Hid (V.ownsRow 0 61 1 (.slice a i c) i ul):=owns_below HR3.out bV0
   have HKV:Hid (∀ (j:Nat) k,yp[j]?=some k->GM V (Q j) k (ul.getD j .nilIface)):=fun j k hj=>GM.keep k (Q j) (Q j) _ (fun b hb=>bV0.block b (Nat.lt_of_lt_of_le (HQB.out j b hb) HF3.out.size)) (fun _ e=>e) (HK3.out j k hj)
   have hwr:=write_any P Zi (fun g=>(Value.slice ka i kc).ownBlock=some g) tx 0 num (nxtP sn).2 V (HQ3.out.below bV0) (.branch (kidsC yp)) 2 0 ⟨#[]⟩ ka i kc none 0 0 ⟨ka,kc,none,0,by rw[show (PgC.branch (kidsC yp)).kids.length=i by show (kidsC yp).length=i;have:=HEV.out.1;rw[rowsOf_length (m:=2) (cs:=kidCells) (fun _=>rfl)] at this;omega];rfl,by rw[show (PgC.branch (kidsC yp)).kids.length=i by show (kidsC yp).length=i;have:=HEV.out.1;rw[rowsOf_length (m:=2) (cs:=kidCells) (fun _=>rfl)] at this;omega];exact own_lowerT HEV.out (Nat.zero_le _),⟨rfl,.inl ⟨rfl,rfl⟩⟩,fun g e=>by rw[show (PgC.branch (kidsC yp)).kids.length=i by show (kidsC yp).length=i;have:=HEV.out.1;rw[rowsOf_length (m:=2) (cs:=kidCells) (fun _=>rfl)] at this;omega] at e;exact fun h=>h e,fun g e=>by simp[Value.ownBlock] at e⟩ (fun g e=>⟨(HEV.out.lt g e).2,HZI.out.2.1 g e⟩) (by rw[nxt_log];have:=HLE.out;omega)
   have hHeld:V.cell? ⟨L,0,none⟩=some (.int .i64 num)∧V.cell? ⟨w.heap.size,0,none⟩=some (.int .i64 2)∧V.cell? ⟨w.heap.size,1,none⟩=some (.int .i64 0)∧V.cell? ⟨w.heap.size,2,none⟩=some (.int .i64 0)∧V.cell? ⟨w.heap.size,3,none⟩=some (.int .i64 0)∧V.cell? ⟨w.heap.size,4,none⟩=some (.int .i64 0)∧V.cell? ⟨w.heap.size,5,none⟩=some (.slice ka i kc)∧V.cell? ⟨w.heap.size,6,none⟩=some (.slice none 0 0)∧V.cell? ⟨w.heap.size,7,none⟩=some (.int .i64 0)∧V.cell? ⟨w.heap.size,8,none⟩=some (.string ⟨#[]⟩):=⟨(box_twoG HBV.out).1,box9P HNV.out⟩
   clear bV0
   refine tY 0 (.pointer (some ⟨P,0,none⟩)) .z (by kernel_rfl) (by rfl) ?_ ‹_› ?_
   ·intro wq hSw;go_simp
   refine tY 1 (.pointer (some ⟨L,0,none⟩)) (.s .z) (by kernel_rfl) (by rfl) ?_ ‹_› ?_
   ·intro wq hSw;go_simp
   refine tY 2 (.pointer (some ⟨L,0,none⟩)) (.s (.s .z)) (by kernel_rfl) (by rfl) ?_ ‹_› ?_
   ·intro wq hSw;go_simp
   refine tY 3 (.pointer (some ⟨L,0,none⟩)) (.s (.s (.s .z))) (by kernel_rfl) (by rfl) ?_ ‹_› ?_
   ·intro wq hSw;go_simp
   try simp only[Act.put,q1,q2,q3]
   refine tY 4 (.pointer (some ⟨L,0,none⟩)) (.s (.s (.s (.s .z)))) (by kernel_rfl) (by rfl) ?_ ‹_› ?_
   ·intro wq hSw;go_simp
   refine tY 5 (.int .i64 num) (.f .z) (by kernel_rfl) (by rfl) ?_ ‹_› ?_
   ·intro wq hSw;go_simp
   refine tY 6 (.agg #[.int .i64 2,.int .i64 0,.int .i64 0,.int .i64 0,.int .i64 0,.slice ka i kc,.slice none 0 0,.int .i64 0,.string ⟨#[]⟩]) (.f (.s .z)) (by kernel_rfl) (by rfl) ?_ ‹_› ?_
   ·intro wq hSw;go_simp
   try simp only[Act.put,q1,q2,q3]
   refine wpAnyH_ready (rs:=[7]) (by kernel_rfl) (by simp) ?_
   refine rdA (.f (.s (.s .z))) (fun K hK=>?_) AllReadyH.nil
   go_simp
   refine hwr.mono ?_
   rintro e w9 ⟨rfl,Z9,hQ9,hF9,hZ9⟩
   have hB9:=(hF9.block L (Array.getElem?_eq_some_iff.1 HBV.out).1 HZI.out.2.2.2).trans HBV.out
   have hN9:=(hF9.block _ (Array.getElem?_eq_some_iff.1 HNV.out).1 HZI.out.2.2.1).trans HNV.out
   have HQ9:Hid (QW w9 P Z9 tx { (nxtP sn).2 with log:=(nxtP sn).2.log++[(num,.branch (kidsC yp))] }):=hQ9
   have HF9:Hid (Fr (fun g=>Z g∨Pn g) w w9):=HFV.out.up3 hF9 (fun g e=>(HZI.out.1 g e).elim (fun e=>.inl (.inl e)) .inr)
   have HZ9:Hid (∀ g,Z9 g->Z g∨w.heap.size<=g):=fun g e=>by
    rcases hZ9 g e with e | e | e
    ·exact HZI.out.1 g e
    ·exact .inr (by have:=(HEV.out.lt g e).1;omega)
    ·exact .inr (by have:=HFV.out.size;omega)
   have nZ:∀ g,Pn g->¬ Zi g:=fun g hg e2=>(HZI.out.1 g e2).elim (HPN.out g hg).2 (fun e3=>by have:=(HPN.out g hg).1;omega)
   have HG9:Hid (GMI w9 Pn ⟨false,num,t.keys,t.vals,t.over,yp⟩ L a i c ul Q):=⟨HM.out.1,hB9,owns_fr HRV.out hF9 (fun g e e2=>nZ g (HM.out.2.1 g e).1 e2),HM.out.2.1,HYP.out.symm,HM.out.2.2.1,HM.out.2.2.2,fun j k hm hj=>GM.keep k (Q j) (Q j) _ (fun b hb=>hF9.block b (Nat.lt_of_lt_of_le (HQB.out j b hb) HFV.out.size) (nZ b (HM.out.2.2.2 j b hb).1)) (fun _ e=>e) (HKV.out j k hj)⟩
   clear hQ9 hF9 hZ9 hwr nZ
   go_wp2_with fail
   refine hK.out _ _ (⟨(box_twoG hB9).1,box9P hN9⟩) (fun hHeld=>?_)
   clear hK K
   try simp only[Act.put,q1,q2,q3]
   refine wpAnyH_done (by kernel_rfl) ?_ _
   refine NoPanic.normal ?_
   clear hHeld
   go_end0
   rw[HPE.out]
   exact⟨rfl,HG9.out,Z9,HQ9.out,HF9.out,HZ9.out⟩
theorem place_any (t:T):(∃ r,t.good r=true)->Neat t->t.whole=true->PlaceOk t:=by
 induction t using T.ind with
 | h t ih =>
  intro hg hne hw P Z Pn tx s w ty v hM hQ hPn hlen
  have hnd:1<=t.nodes:=by rw[T.nodes_eq];omega
  obtain⟨ha,f,rr,hmt,hcf,hcall⟩:=GIs.where t ty v (GM.see _ _ _ hM)
  by_cases hp:t.page=0
  ·rw[hp] at hcall
   cases hl:t.leaf
   ·obtain⟨L,a,n,c,ul,Q,e,q⟩:=hM.inner hl
    cases e
    have hgk:∀ k ∈ t.kids,PlaceOk k:=fun k hk=>ih k hk (by obtain⟨r,hg⟩:=hg;exact⟨false,(good_parts hg).2.2 k hk⟩) (((neat_eq t).1 hne).2.2 k hk) ((T.whole_inner hw hl).2 k hk).2
    have hcon:=placeInner_any t hl hp hg hne hgk hw P Z Pn tx s w L a n c ul Q q hQ hPn hlen
    have HF:Hid ((placeT t s).1.leaf=false):=by show _=_;rw[place_leaf,hl]
    have ta1:=ta_il (.pointer (some ⟨L,0,none⟩))
    have ta2:=ta_ii (.pointer (some ⟨L,0,none⟩))
    clear hM q hg hne hw hPn ih hgk hQ
    go_enter Tryz.func27,Tryz.ntmps27
    go_wp2_with fail
    refine hcall.mono ?_
    rintro e w1 ⟨rfl,rfl⟩
    go_wp2_with fail
    refine hcon.mono ?_
    rintro e w2 ⟨rfl,h1,h2⟩
    go_wp2_with fail
    go_end0
    exact⟨rfl,h1.is HF.out,h2⟩
   ·obtain⟨L,a,n,c,e,q⟩:=hM.leaf hl
    cases e
    have hcon:=placeLeaf_any t hl hp hg hne P Z Pn tx s w L a n c q hQ hPn (by omega)
    have HF:Hid ((placeT t s).1.leaf=true):=by show _=_;rw[place_leaf,hl]
    have ta1:=ta_ll (.pointer (some ⟨L,0,none⟩))
    clear hM q hg hne hw hPn ih hQ
    go_enter Tryz.func27,Tryz.ntmps27
    go_wp2_with fail
    refine hcall.mono ?_
    rintro e w1 ⟨rfl,rfl⟩
    go_wp2_with fail
    refine hcon.mono ?_
    rintro e w2 ⟨rfl,h1,h2⟩
    go_wp2_with fail
    go_end0
    exact⟨rfl,h1.is HF.out,h2⟩
  ·have HE:Hid (placeT t s=(t,s)):=by show _=_;rw[placeT_eq,if_pos hp]
   have HM:Hid (GM w Pn t (.iface ty v)):=hM
   have HQ:Hid (QW w P Z tx s):=hQ
   generalize t.page=pg at hp hcall
   clear hM hQ hg hne hw hPn ih hlen hnd
   go_enter Tryz.func27,Tryz.ntmps27
   go_wp2_with fail
   refine hcall.mono ?_
   rintro e w1 ⟨rfl,rfl⟩
   go_wp2_with fail
   go_end0
   refine⟨rfl,?_,Z,?_,Fr.of_below (Below.refl _ _),fun g e=>.inl e⟩
   ·rw[HE.out];exact HM.out
   ·rw[HE.out];exact HQ.out
end Go.Proofs.YtkhglgalbifcnaaGreat
