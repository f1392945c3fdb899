import Derived.Test.YtbfggcekifaldaaGreatTwd
import Derived.Test.YtbfggcekifaldaaGreatHTwf
namespace Go.Proofs.YtbfggcekifaldaaGreat
open Go.RowKit
set_option linter.unusedVariables false
set_option linter.unusedSimpArgs false
set_option maxRecDepth 100000
def PosK (ks:List ByteArray) (key:ByteArray) (i j:Nat):Prop:=i<=ks.length∧(∀ k,k<i->lessB (ks.getD k ByteArray.empty) key=true)∧(i<ks.length->¬ lessB (ks.getD i ByteArray.empty) key=true)∧((i<ks.length∧ks.getD i ByteArray.empty=key∧j=i+1)∨(¬ (i<ks.length∧ks.getD i ByteArray.empty=key)∧j=i))
def oneT (key val:ByteArray):T:=⟨true,0,[key],[val],[0],[]⟩
theorem zipD {t:T} (h1:t.vals.length=t.keys.length) (h2:t.over.length=t.keys.length) {k:Nat} (hk:k<t.keys.length):((t.keys.zip (t.vals.zip t.over)).getD k (ByteArray.empty,ByteArray.empty,0)).1=t.keys.getD k ByteArray.empty:=by
 simp[List.getD,zip3_get (n:=t.keys.length) rfl h1 h2 hk]
theorem SN.shape {w:World} {Q:Nat->Prop} {t:T} {v:Value} (h:SN w Q t v):∃ ka kn kc va vn vc oa on oc ya yc,v=.agg #[.bool t.leaf,.int .i64 t.page,.slice ka kn kc,.slice va vn vc,.slice oa on oc,.slice ya t.kids.length yc]:=by
 obtain⟨ka,kn,kc,va,vn,vc,oa,on,oc,ya,yc,css,e,_⟩:=h
 exact⟨ka,kn,kc,va,vn,vc,oa,on,oc,ya,yc,e⟩
theorem alloc2N (w:World) (a b:Obj):((w.alloc a).alloc b).heap[w.heap.size]?=some a∧((w.alloc a).alloc b).heap[w.heap.size+1]?=some b∧((w.alloc a).alloc b).heap.size=w.heap.size+2∧Below w.heap.size w ((w.alloc a).alloc b):=by
 have b1:=(Below.refl (w.alloc a).heap.size _).alloc (Nat.le_refl _) b
 have s1:(w.alloc a).heap.size=w.heap.size+1:=by simp
 have e1:=heap_alloc_new (w.alloc a) b
 rw[s1] at e1
 exact⟨(b1.block _ (by omega)).trans (heap_alloc_new w a),e1,by simp,((Below.refl _ _).alloc (Nat.le_refl _) _).alloc (by simp) _⟩
theorem slim_fore {t:T} (h:Slim t) (hl:t.leaf=true) (hs:t.size<=900) (k:Nat):(t.fore k).keys.length<=1000∧(t.fore k).vals.length<=1000∧(t.fore k).over.length<=1000∧(t.fore k).kids.length<=1000:=by
 have:=size_leaf hl
 obtain⟨h1,h2,h3⟩:=h.1 hl
 simp[T.fore,h1]
 omega
theorem slim_rest {t:T} (h:Slim t) (hl:t.leaf=true) (hs:t.size<=900) (k:Nat):(t.rest k).keys.length<=1000∧(t.rest k).vals.length<=1000∧(t.rest k).over.length<=1000∧(t.rest k).kids.length<=1000:=by
 have:=size_leaf hl
 obtain⟨h1,h2,h3⟩:=h.1 hl
 simp[T.rest,h1]
 omega
theorem sn_fr {w w':World} {Q:Nat->Prop} {t:T} {v:Value} {R:Nat} (h:SN w Q t v) (hf:Fr (fun g=>g=R) w w') (hR:¬ Q R):SN w' Q t v:=h.keep (fun b hb hlt=>hf.block b hlt (fun e=>hR (e ▸ hb))) (fun _ h=>h) hf.size
def innT (ys:List T):T:=⟨false,0,[],[],[],ys⟩
def SL (w:World) (Q:Nat->Prop) (ys:List T) (v:Value):Prop:=∃ ya yc css,v=.slice ya ys.length yc∧QX w w.heap.size Q (innT ys) none 0 0 none 0 0 none 0 0 ya yc css
theorem SL.keep {w w':World} {Q Q':Nat->Prop} {ys:List T} {v:Value} (h:SL w Q ys v) (hk:∀ b,Q b->b<w.heap.size->w'.heap[b]?=w.heap[b]?) (hQ:∀ b,Q b->Q' b) (hB:w.heap.size<=w'.heap.size):SL w' Q' ys v:=by
 obtain⟨ya,yc,css,e,hX⟩:=h
 exact⟨ya,yc,css,e,hX.keep hk hQ hB⟩
theorem inn_mk {w:World} {Q:Nat->Prop} {ys:List T} {base:Nat} {v:Value} {css:Nat->List Value} (h:w.ownsRow base 47 6 v ys.length (rowsC css ys.length)) (hq:∀ g,base<=g->Q g) (hk:∀ (i:Nat) z,ys[i]?=some z->NodeQ w w.heap.size Q z (css i)):∃ a c,v=.slice a ys.length c∧QX w w.heap.size Q (innT ys) none 0 0 none 0 0 none 0 0 a c css:=by
 have h6:∀ i,i<ys.length->(css i).length=6:=fun i hi=>by
  obtain⟨_,_,_,_,_,_,_,_,_,_,_,_,e,_⟩:=(hk i _ (List.getElem?_eq_getElem hi)).out
  rw[e];rfl
 obtain⟨a,c,rfl,h1,h2,h3,h4⟩:=kids_own h6 h
 have hn0:∀ {a':Option Addr},QA Q a' 0:=fun h=>absurd h (by omega)
 exact⟨a,c,rfl,⟨(show I64 0 from ⟨by decide,by decide⟩),nilR _ _ _ _,nilR _ _ _ _,nilR _ _ _ _,⟨h1,h2⟩,h4,fun i z hz hi=>(hk i z hi).is⟩,hn0,hn0,hn0,(own_qa h).mono hq,fun i z _ hi=>hk i z hi⟩
theorem kids_app {P:T->List Value->Prop} {A B:List T} {cA cB:Nat->List Value} {m:Nat} (hm:A.length=m) (hA:∀ (i:Nat) z,A[i]?=some z->P z (cA i)) (hB:∀ (i:Nat) z,B[i]?=some z->P z (cB i)):∀ (i:Nat) z,(A++B)[i]?=some z->P z ((fun i=>if i<m then cA i else cB (i - m)) i):=fun i z hi=>by
 subst hm
 by_cases hlt:i<A.length
 ·rw[List.getElem?_append_left hlt] at hi
  simp only[if_pos hlt]
  exact hA i z hi
 ·rw[List.getElem?_append_right (by omega)] at hi
  simp only[if_neg hlt]
  exact hB _ z hi
theorem SN.nodeQ {w:World} {Q:Nat->Prop} {o:T} {c0 c1 c2 c3 c4 c5:Value} (h:SN w Q o (.agg #[c0,c1,c2,c3,c4,c5])):NodeQ w w.heap.size Q o [c0,c1,c2,c3,c4,c5]:=by
 obtain⟨ka,kn,kc,va,vn,vc,oa,on,oc,ya,yc,css,e,hX⟩:=h
 cases e
 exact hX.mk'
theorem kid_at {w:World} {Q:Nat->Prop} {t:T} {ka:Option Addr} {kn kc:Nat} {va:Option Addr} {vn vc:Nat} {oa:Option Addr} {on oc:Nat} {ya:Option Addr} {yc:Nat} {css:Nat->List Value} (h:QX w w.heap.size Q t ka kn kc va vn vc oa on oc ya yc css) {i:Nat} (hi:i<t.kids.length) :
  ∃ b off,ya=some ⟨b,off,none⟩∧b<w.heap.size∧∃ k,t.kids[i]?=some k∧k ∈ t.kids∧∃ ka kn kc va vn vc oa on oc ya yc,SN w Q k (.agg #[.bool k.leaf,.int .i64 k.page,.slice ka kn kc,.slice va vn vc,.slice oa on oc,.slice ya k.kids.length yc]) ∧
   w.cell? ⟨b,off+i*6,none⟩=some (.bool k.leaf)∧w.cell? ⟨b,off+i*6+1,none⟩=some (.int .i64 k.page)∧w.cell? ⟨b,off+i*6+2,none⟩=some (.slice ka kn kc)∧w.cell? ⟨b,off+i*6+3,none⟩=some (.slice va vn vc)∧w.cell? ⟨b,off+i*6+4,none⟩=some (.slice oa on oc)∧w.cell? ⟨b,off+i*6+5,none⟩=some (.slice ya k.kids.length yc):=by
 obtain⟨b,off,e,hb,hc⟩:=h.nx.cell (by omega)
 have hk:t.kids[i]?=some t.kids[i]:=List.getElem?_eq_getElem hi
 have hm:t.kids[i] ∈ t.kids:=List.getElem_mem hi
 obtain⟨ka,kn,kc,va,vn,vc,oa,on,oc,ya,yc,css',e2,hx⟩:=(h.kq i _ hm hk).out
 have hc:=hc i hi
 rw[e2] at hc
 exact⟨b,off,e,hb,_,hk,hm,ka,kn,kc,va,vn,vc,oa,on,oc,ya,yc,⟨_,_,_,_,_,_,_,_,_,_,_,_,rfl,hx⟩,by simpa using hc 0 (by omega),by simpa using hc 1 (by omega),by simpa using hc 2 (by omega),by simpa using hc 3 (by omega),by simpa using hc 4 (by omega),by simpa using hc 5 (by omega)⟩
end Go.Proofs.YtbfggcekifaldaaGreat
