import Derived.Test.YtbfggcekifaldaaGreatTks
import Derived.Test.YtbfggcekifaldaaGreatTq
import Derived.Test.YtbfggcekifaldaaGreatHTvl
import Derived.Test.YtbfggcekifaldaaGreatHTui
import Derived.Test.YtbfggcekifaldaaGreatHTdp
import Derived.Test.YtbfggcekifaldaaGreatHTxj
import Derived.Test.YtbfggcekifaldaaGreatTxc
import Derived.Test.YtbfggcekifaldaaGreatHTwf
namespace Go.Proofs.YtbfggcekifaldaaGreat
set_option maxHeartbeats 4000000
open Go.RowKit
set_option linter.unusedVariables false
set_option linter.unusedSimpArgs false
set_option maxRecDepth 100000
def shortN (x:TN):Prop:=x.keys.length<=4∧x.vals.length<=4∧x.over.length<=4∧x.kids.length<=4
theorem offs_mem {x:TN}:∀ (gs:List (Nat->List TN)) (s:Nat),x ∈ offs s gs->∃ g ∈ gs,∃ s',x ∈ g s'
 | [],s,h=>by simp[offs] at h
 | g::r,s,h=>by
  rw[offs,List.mem_append] at h
  rcases h with h | h
  ·exact⟨g,List.mem_cons_self ..,s,h⟩
  ·obtain⟨g',hg,s',hx⟩:=offs_mem r _ h
   exact⟨g',List.mem_cons_of_mem _ hg,s',hx⟩
theorem startsN_len:∀ (l:List Nat) (s:Nat),(startsN s l).length=l.length
 | [],s=>rfl
 | x::r,s=>by simp only[startsN,List.length_cons,startsN_len r]
theorem flat_short (t:T):(∃ r,t.good r=true)->∀ s,∀ x ∈ t.flat s,shortN x:=by
 induction t using T.ind with
 | h t ih =>
  rintro ⟨r,hg⟩ s x hx
  have hg0:=hg
  rw[T.good_eq] at hg
  simp only[Bool.and_eq_true,decide_eq_true_eq] at hg
  rw[T.flat_eq] at hx
  cases hl:t.leaf
  ·rw[hl] at hx
   simp only[Bool.false_eq_true,if_false,List.mem_cons] at hx
   have hsz:t.kids.length<=4:=by have:=hg.1.1.1.1.2;simpa[T.size,hl] using this
   rcases hx with rfl | hx
   ·exact⟨by simp;omega,by simp,by simp,by rw[startsN_len,List.length_map];exact hsz⟩
   ·obtain⟨g,hgm,s',hx⟩:=offs_mem _ _ hx
    obtain⟨k,hk,rfl⟩:=List.mem_map.1 hgm
    exact ih k hk ⟨false,good_kid hg0 hk⟩ s' x hx
  ·rw[hl] at hx hg
   simp only[if_true,List.mem_singleton] at hx
   subst hx
   have hsz:t.keys.length<=4:=by have:=hg.1.1.1.1.2;simpa[T.size,hl] using this
   have h3:=hg.1.1.2
   simp only[Bool.not_true,Bool.false_or,Bool.and_eq_true,decide_eq_true_eq] at h3
   exact⟨hsz,by show t.vals.length<=4;omega,by show t.over.length<=4;omega,by simp⟩
theorem ndLen_short {x:TN} (h:shortN x):ndLen x.nd<=18:=by
 obtain⟨h3,h4,h5,h6⟩:=h
 show 2+(rowsOf strCells x.keys).length+(rowsOf strCells x.vals).length+(rowsOf intCells x.over).length+(rowsOf intCells x.kids).length<=18
 rw[rows_len1 sc1,rows_len1 sc1,rows_len1 ic1,rows_len1 ic1]
 omega
theorem kT_short:∀ (ts:List TN) (k:Nat),(∀ x ∈ ts,shortN x)->kT k (ts.map TN.nd)<=k+18*ts.length
 | [],k,h=>by simp[kT]
 | x::r,k,h=>by
  have h2:=kT_short r (k+ndLen x.nd) (fun y hy=>h y (List.mem_cons_of_mem _ hy))
  have h3:=ndLen_short (h x (List.mem_cons_self ..))
  simp only[List.map_cons,kT,List.length_cons]
  omega
theorem OwnT.nodes {w:World} {base n c:Nat} {a:Option Addr} {ts:List TN} {us:Nat->Nat->Value} (h:OwnT w base (.slice a n c) (ts.map TN.nd) us) (hn:n=ts.length) {w2:World} {A2 B2 c2:Nat} {a2:Option Addr} (hS:NodesAt w2 A2 B2 a2 n c2 ts):NodesAt w base w.heap.size a n c ts:=by
 have hl:(ts.map TN.nd).length=n:=by rw[List.length_map,hn]
 rcases h.row.2 with ⟨e,e2⟩ | ⟨g,cap,cur,e,hg1,hg2,h1,h2,_⟩
 ·simp only[Value.slice.injEq] at e
  obtain⟨rfl,rfl,rfl⟩:=e
  exact⟨hn.symm,Nat.le_refl _,by unfold maxLen;exact Nat.zero_le _,fun h0=>absurd h0 (by omega)⟩
 ·simp only[Value.slice.injEq] at e
  obtain⟨rfl,_,rfl⟩:=e
  refine⟨hn.symm,by omega,h2,fun h0=>⟨g,0,rfl,h.row.lt g rfl,fun i hi=>?_⟩⟩
  have hil:i<(ts.map TN.nd).length:=by omega
  have hg:(ts.map TN.nd).getD i dN=TN.nd (ts.getD i dT):=by simp[List.getD,show i<ts.length by omega]
  have hcell:=fun j hj=>h.cell (i:=i) (j:=j) hil hj
  have hd:=h.data i hil
  rw[hg] at hcell hd
  obtain⟨b2,off2,_,_,hN⟩:=hS.2.2.2 h0
  obtain⟨ka,kn,kc,va,vn,vc,oa,on,oc,ya,yn,yc,hT⟩:=hN i hi
  have d0:=hd 0 (by omega)
  have d1:=hd 1 (by omega)
  have d2:=hd 2 (by omega)
  have d3:=hd 3 (by omega)
  replace d0:w.ownsRow base 9 1 (us i 0) (rowsOf strCells (ts.getD i dT).keys).length (rowsOf strCells (ts.getD i dT).keys):=d0
  replace d1:w.ownsRow base 9 1 (us i 1) (rowsOf strCells (ts.getD i dT).vals).length (rowsOf strCells (ts.getD i dT).vals):=d1
  replace d2:w.ownsRow base 2 1 (us i 2) (rowsOf intCells (ts.getD i dT).over).length (rowsOf intCells (ts.getD i dT).over):=d2
  replace d3:w.ownsRow base 2 1 (us i 3) (rowsOf intCells (ts.getD i dT).kids).length (rowsOf intCells (ts.getD i dT).kids):=d3
  rw[rows_len1 sc1] at d0 d1
  rw[rows_len1 ic1] at d2 d3
  obtain⟨a0,c0,e0,r0⟩:=RowsAt.of_owns (fit:=strFit) (d:=ByteArray.empty) sc1 d0 rfl (fun j hj=>hT.keys.2.2.2.1 j (by rw[<-hT.keys.1];exact hj))
  obtain⟨a1,c1,e1,r1⟩:=RowsAt.of_owns (fit:=strFit) (d:=ByteArray.empty) sc1 d1 rfl (fun j hj=>hT.vals.2.2.2.1 j (by rw[<-hT.vals.1];exact hj))
  obtain⟨a3,c3,e3,r3⟩:=RowsAt.of_owns (fit:=I64) (d:=0) ic1 d2 rfl (fun j hj=>hT.over.2.2.2.1 j (by rw[<-hT.over.1];exact hj))
  obtain⟨a4,c4,e4,r4⟩:=RowsAt.of_owns (fit:=I64) (d:=0) ic1 d3 rfl (fun j hj=>hT.kids.2.2.2.1 j (by rw[<-hT.kids.1];exact hj))
  refine⟨a0,_,c0,a1,_,c1,a3,_,c3,a4,_,c4,?_,?_,?_,?_,?_,?_,hT.page,r0,r1,r3,r4⟩
  ·rw[Nat.zero_add];exact hcell 0 (by omega)
  ·rw[Nat.zero_add];exact hcell 1 (by omega)
  ·rw[Nat.zero_add,<-e0];exact hcell 2 (by omega)
  ·rw[Nat.zero_add,<-e1];exact hcell 3 (by omega)
  ·rw[Nat.zero_add,<-e3];exact hcell 4 (by omega)
  ·rw[Nat.zero_add,<-e4];exact hcell 5 (by omega)
theorem join_any {w:World} {P1 P2:Nat->Prop} {t1 t2:T} {u1 u2:Value} (h1:GM w P1 t1 u1) (h2:GM w P2 t2 u2) (hl:t1.leaf=t2.leaf) (hs1:t1.leaf=true->t1.vals.length=t1.keys.length∧t1.over.length=t1.keys.length∧t1.kids=[]) (hs2:t2.leaf=true->t2.vals.length=t2.keys.length∧t2.over.length=t2.keys.length∧t2.kids=[]) (hn1:t1.size<=1000) (hn2:t2.size<=1000) (hP1:∀ b,P1 b->b<w.heap.size) (hP2:∀ b,P2 b->b<w.heap.size) (hd:∀ b,P1 b->¬ P2 b) :
  Calls Tryz.prog 102 #[u1,u2] w fun e w'=>JoinAns w P1 P2 t1 t2 u1 e w':=by
 cases hc:t1.leaf
 ·obtain⟨L1,a1,n1,c1,ul1,Q1,rfl,g1⟩:=h1.inner hc
  obtain⟨L2,a2,n2,c2,ul2,Q2,rfl,g2⟩:=h2.inner (hl ▸ hc)
  have e1:t1.size=t1.kids.length:=by simp[T.size,hc]
  have e2:t2.size=t2.kids.length:=by simp[T.size,show t2.leaf=false from hl ▸ hc]
  exact joinInner_any g1 g2 hc (by have:=g1.len;omega) (by have:=g2.len;omega) hP1 hP2 hd
 ·obtain⟨L1,a1,n1,c1,rfl,g1⟩:=h1.leaf hc
  obtain⟨L2,a2,n2,c2,rfl,g2⟩:=h2.leaf (hl ▸ hc)
  have e1:t1.size=t1.keys.length:=by simp[T.size,hc]
  have e2:t2.size=t2.keys.length:=by simp[T.size,show t2.leaf=true from hl ▸ hc]
  exact joinLeaf_any g1 g2 hc (hl ▸ hc) (hs1 hc) (hs2 (hl ▸ hc)) (by have:=g1.len;omega) (by have:=g2.len;omega) hP1 hP2 hd
theorem GMI.two {w w3:World} {P:Nat->Prop} {t:T} {L:Nat} {a:Option Addr} {n c l:Nat} {ul:List Value} {Q:Nat->Nat->Prop} (h:GMI w P t L a n c ul Q) (hP:∀ b,P b->b<w.heap.size) (hl:l+1<n) {P1 P2:Nat->Prop} {k1 k2:T} {u2:Value}
  (hk:∀ b,P b->¬ Q l b->¬ Q (l+1) b->(Value.slice a n c).ownBlock≠some b->w3.heap[b]?=w.heap[b]?) (hsz:w.heap.size<=w3.heap.size) (hrow:w3.ownsRow 0 54 1 (.slice a n c) n (ul.set (l+1) u2))
  (hg1:GM w3 P1 k1 (ul.getD l .nilIface)) (hg2:GM w3 P2 k2 u2) (hdis:∀ b,P1 b->¬ P2 b) (hpp:∀ b,P1 b∨P2 b->(Q l b∨Q (l+1) b∨w.heap.size<=b)∧b<w3.heap.size) :
  GMI w3 (Wider w w3 P) { t with kids:=(t.kids.set l k1).set (l+1) k2 } L a n c (ul.set (l+1) u2) (fun i b=>if i=l then P1 b else if i=l+1 then P2 b else Q i b):=by
 have hul:ul.length=n:=by have:=h.row.1;omega
 have hlen:=h.len
 have hL:=hP L h.at'
 have hQn:∀ i b,i≠l->i≠l+1->Q i b->¬ (P1 b∨P2 b):=by
  intro i b h1 h2 hq hp
  rcases (hpp b hp).1 with e | e | e
  ·exact h1 (h.dis i l b hq e)
  ·exact h2 (h.dis i (l+1) b hq e)
  ·have:=hP b (h.sub i b hq).1;omega
 have hsubP:∀ b,P1 b∨P2 b->Wider w w3 P b∧b≠L∧(Value.slice a n c).ownBlock≠some b:=by
  intro b hb
  have h9:=hpp b hb
  rcases h9.1 with e | e | e
  ·exact⟨⟨.inl (h.sub l b e).1,h9.2⟩,(h.sub l b e).2⟩
  ·exact⟨⟨.inl (h.sub (l+1) b e).1,h9.2⟩,(h.sub (l+1) b e).2⟩
  ·exact⟨⟨.inr e,h9.2⟩,by omega,fun e2=>by have:=hP b (h.blk b e2).1;omega⟩
 refine⟨⟨.inl h.at',by omega⟩,(hk L h.at' (fun e=>(h.sub l L e).2.1 rfl) (fun e=>(h.sub (l+1) L e).2.1 rfl) (fun e=>(h.blk L e).2 rfl)).trans h.box,hrow,fun g hg=>⟨⟨.inl (h.blk g hg).1,by have:=hP g (h.blk g hg).1;omega⟩,(h.blk g hg).2⟩,by simpa using h.len,fun i j b hi hj=>?_,fun i b hi=>?_,fun i z hz hi=>?_⟩
 ·skip
  split at hi
  ·split at hj
   ·omega
   ·split at hj
    ·exact absurd hj (hdis b hi)
    ·exact absurd (.inl hi) (hQn j b (by assumption) (by assumption) hj)
  ·split at hi
   ·split at hj
    ·exact absurd hi (hdis b hj)
    ·split at hj
     ·omega
     ·exact absurd (.inr hi) (hQn j b (by assumption) (by assumption) hj)
   ·split at hj
    ·exact absurd (.inl hj) (hQn i b (by assumption) (by assumption) hi)
    ·split at hj
     ·exact absurd (.inr hj) (hQn i b (by assumption) (by assumption) hi)
     ·exact h.dis i j b hi hj
 ·skip
  split at hi
  ·exact hsubP b (.inl hi)
  ·split at hi
   ·exact hsubP b (.inr hi)
   ·exact⟨⟨.inl (h.sub i b hi).1,by have:=hP b (h.sub i b hi).1;omega⟩,(h.sub i b hi).2⟩
 ·rcases getD_set hi with ⟨rfl,rfl,_⟩ | ⟨hne,hz2⟩
  ·have e:(ul.set (l+1) u2).getD (l+1) .nilIface=u2:=by simp[List.getD,show l+1<ul.length by omega]
   rw[e]
   simp only[if_neg (show ¬ (l+1=l) by omega),if_true]
   exact hg2
  ·have e:(ul.set (l+1) u2).getD i .nilIface=ul.getD i .nilIface:=by simp only[List.getD];rw[List.getElem?_set_ne (by omega)]
   rw[e]
   rcases getD_set hz2 with ⟨rfl,rfl,_⟩ | ⟨hne2,hz3⟩
   ·simp only[if_true];exact hg1
   ·simp only[if_neg hne2,if_neg hne]
    exact GM.keep z (Q i) (Q i) _ (fun b hb=>hk b (h.sub i b hb).1 (fun e=>hne2 (h.dis i l b hb e)) (fun e=>hne (h.dis i (l+1) b hb e)) (h.sub i b hb).2.2) (fun _ hb=>hb) (h.kid i z (List.mem_of_getElem? hz3) hz3)
theorem GMI.less {w w3:World} {P:Nat->Prop} {t:T} {L:Nat} {a:Option Addr} {m c l:Nat} {ul:List Value} {Q:Nat->Nat->Prop} (h:GMI w P t L a (m+1) c ul Q) (hP:∀ b,P b->b<w.heap.size) (hl:l+1<m+1) {P1:Nat->Prop} {k1:T}
  (hk:∀ b,P b->¬ Q l b->b≠L->(Value.slice a (m+1) c).ownBlock≠some b->w3.heap[b]?=w.heap[b]?) (hbox:w3.heap[L]?=some (.cells #[.int .i64 t.page,.slice a m c] 100)) (hsz:w.heap.size<=w3.heap.size) (hrow:w3.ownsRow 0 54 1 (.slice a m c) m (ul.take (l+1)++ul.drop (l+2)))
  (hg1:GM w3 P1 k1 (ul.getD l .nilIface)) (hpp:∀ b,P1 b->(Q l b∨Q (l+1) b∨w.heap.size<=b)∧b<w3.heap.size) :
  GMI w3 (Wider w w3 P) { t with kids:=t.kids.take l++[k1]++t.kids.drop (l+2) } L a m c (ul.take (l+1)++ul.drop (l+2)) (fun i b=>if i<l then Q i b else if i=l then P1 b else Q (i+1) b):=by
 have hul:ul.length=m+1:=by have:=h.row.1;omega
 have hlen:=h.len
 have hL:=hP L h.at'
 have hown:(Value.slice a m c).ownBlock=(Value.slice a (m+1) c).ownBlock:=by cases a<;>rfl
 have hQn:∀ i b,i≠l->i≠l+1->Q i b->¬ P1 b:=by
  intro i b h1 h2 hq hp
  rcases (hpp b hp).1 with e | e | e
  ·exact h1 (h.dis i l b hq e)
  ·exact h2 (h.dis i (l+1) b hq e)
  ·have:=hP b (h.sub i b hq).1;omega
 have hsubP:∀ b,P1 b->Wider w w3 P b∧b≠L∧(Value.slice a (m+1) c).ownBlock≠some b:=by
  intro b hb
  have h9:=hpp b hb
  rcases h9.1 with e | e | e
  ·exact⟨⟨.inl (h.sub l b e).1,h9.2⟩,(h.sub l b e).2⟩
  ·exact⟨⟨.inl (h.sub (l+1) b e).1,h9.2⟩,(h.sub (l+1) b e).2⟩
  ·exact⟨⟨.inr e,h9.2⟩,by omega,fun e2=>by have:=hP b (h.blk b e2).1;omega⟩
 have hsubQ:∀ i b,Q i b->Wider w w3 P b∧b≠L∧(Value.slice a (m+1) c).ownBlock≠some b:=fun i b hi=>⟨⟨.inl (h.sub i b hi).1,by have:=hP b (h.sub i b hi).1;omega⟩,(h.sub i b hi).2⟩
 have hkq:∀ i z,i≠l->t.kids[i]?=some z->GM w3 (Q i) z (ul.getD i .nilIface):=fun i z hne hz =>
  GM.keep z (Q i) (Q i) _ (fun b hb=>hk b (h.sub i b hb).1 (fun e=>hne (h.dis i l b hb e)) (h.sub i b hb).2.1 (h.sub i b hb).2.2) (fun _ hb=>hb) (h.kid i z (List.mem_of_getElem? hz) hz)
 refine⟨⟨.inl h.at',by omega⟩,hbox,hrow,fun g hg=>?_,?_,fun i j b hi hj=>?_,fun i b hi=>?_,fun i z hz hi=>?_⟩
 ·rw[hown] at hg
  exact⟨⟨.inl (h.blk g hg).1,by have:=hP g (h.blk g hg).1;omega⟩,(h.blk g hg).2⟩
 ·simp only[List.length_append,List.length_take,List.length_drop,List.length_cons,List.length_nil];omega
 ·skip
  split at hi
  ·split at hj
   ·exact h.dis i j b hi hj
   ·split at hj
    ·exact absurd hj (hQn i b (by omega) (by omega) hi)
    ·have:=h.dis i (j+1) b hi hj;omega
  ·split at hi
   ·split at hj
    ·exact absurd hi (hQn j b (by omega) (by omega) hj)
    ·split at hj
     ·omega
     ·exact absurd hi (hQn (j+1) b (by omega) (by omega) hj)
   ·split at hj
    ·have:=h.dis (i+1) j b hi hj;omega
    ·split at hj
     ·exact absurd hj (hQn (i+1) b (by omega) (by omega) hi)
     ·have:=h.dis (i+1) (j+1) b hi hj;omega
 ·rw[hown]
  split at hi
  ·exact hsubQ i b hi
  ·split at hi
   ·exact hsubP b hi
   ·exact hsubQ _ b hi
 ·dsimp only at hi
  rw[List.append_assoc] at hi
  by_cases h1:i<l
  ·rw[List.getElem?_append_left (by rw[List.length_take];omega),List.getElem?_take,if_pos h1] at hi
   have e:(ul.take (l+1)++ul.drop (l+2)).getD i .nilIface=ul.getD i .nilIface:=by
    simp only[List.getD]
    rw[List.getElem?_append_left (by rw[List.length_take];omega),List.getElem?_take,if_pos (by omega)]
   rw[e]
   simp only[if_pos h1]
   exact hkq i z (by omega) hi
  ·rw[List.getElem?_append_right (by rw[List.length_take];omega),List.length_take,show min l t.kids.length=l by omega] at hi
   by_cases h2:i=l
   ·subst h2
    simp at hi
    subst hi
    have e:(ul.take (i+1)++ul.drop (i+2)).getD i .nilIface=ul.getD i .nilIface:=by
     simp only[List.getD]
     rw[List.getElem?_append_left (by rw[List.length_take];omega),List.getElem?_take,if_pos (by omega)]
    rw[e]
    simp only[Nat.lt_irrefl,if_false,if_true]
    exact hg1
   ·obtain⟨d,rfl⟩:∃ d,i=l+1+d:=⟨i - (l+1),by omega⟩
    have hd:l+1+d - l=d+1:=by omega
    rw[hd] at hi
    simp only[List.cons_append,List.nil_append,List.getElem?_cons_succ,List.getElem?_drop] at hi
    have e:(ul.take (l+1)++ul.drop (l+2)).getD (l+1+d) .nilIface=ul.getD (l+2+d) .nilIface:=by
     simp only[List.getD]
     rw[List.getElem?_append_right (by rw[List.length_take];omega),List.length_take,show min (l+1) ul.length=l+1 by omega,show l+1+d - (l+1)=d by omega,List.getElem?_drop]
    rw[e]
    simp only[if_neg h1,if_neg h2,show l+1+d+1=l+2+d by omega]
    exact hkq (l+2+d) z (by omega) hi
def KidsAns (w:World) (P:Nat->Prop) (t:T) (L:Nat) (ys:List T) (e:Ending) (w':World):Prop:=e=.returned (.tuple #[])∧(∃ (P':Nat->Prop) (a:Option Addr) (n c:Nat) (ul:List Value) (Q:Nat->Nat->Prop),GMI w' P' { t with kids:=ys } L a n c ul Q∧∀ b,P' b->(P b∨w.heap.size<=b)∧b<w'.heap.size)∧Fr P w w'
theorem even_any {w:World} {P:Nat->Prop} {t:T} {L:Nat} {a:Option Addr} {n c l k:Nat} {ul:List Value} {Q:Nat->Nat->Prop} (h:GMI w P t L a n c ul Q) (hP:∀ b,P b->b<w.heap.size) (hl:l+1<n) (hn:n<=1000) {x y:T} (hx:t.kids[l]?=some x) (hy:t.kids[l+1]?=some y) (hlf:x.leaf=y.leaf) (hsx:x.leaf=true->x.vals.length=x.keys.length∧x.over.length=x.keys.length∧x.kids=[]) (hsy:y.leaf=true->y.vals.length=y.keys.length∧y.over.length=y.keys.length∧y.kids=[]) (hnx:x.size<=400) (hny:y.size<=400) (hk:0<k∧k<x.size+y.size) :
  Calls Tryz.prog 101 #[.pointer (some ⟨L,0,none⟩),.int .i64 l,.int .i64 k] w fun e w'=>KidsAns w P t L ((t.kids.set l ((glueT x y).fore k)).set (l+1) ((glueT x y).rest k)) e w':=by
 obtain⟨N,hN⟩:∃ N,w.heap.size=N:=⟨_,rfl⟩
 have HH:Hid (GMI w P t L a n c ul Q):=h
 have hul:ul.length=n:=by have:=h.row.1;omega
 obtain⟨b,ty1,v1,rfl,eu1,cl1⟩:=getD_kid h (show l<n by omega)
 obtain⟨_,ty2,v2,e9,eu2,cl2⟩:=getD_kid h hl
 cases e9
 have g1:=h.kid l x (List.mem_of_getElem? hx) hx
 have g2:=h.kid (l+1) y (List.mem_of_getElem? hy) hy
 rw[eu1] at g1
 rw[eu2] at g2
 have hbox:=h.box
 have hrow:=h.row
 have hPL:=h.at'
 have hgs:(glueT x y).size=x.size+y.size:=by
  unfold T.size glueT
  rw[<-hlf]
  cases x.leaf<;>simp
 have hj:∀ W,W=w.drew->Calls Tryz.prog 102 #[.iface ty1 v1,.iface ty2 v2] W fun e w'=>JoinAns W (Q l) (Q (l+1)) x y (.iface ty1 v1) e w':=fun W hW=>by
  subst hW
  exact join_any g1.drew g2.drew hlf hsx hsy (by omega) (by omega) (fun z hz=>hP z (h.sub l z hz).1) (fun z hz=>hP z (h.sub (l+1) z hz).1) (fun z h1 h2=>by have:=h.dis l (l+1) z h1 h2;omega)
 have hj2:=hj w.drew rfl
 have HJ:Hid (Calls Tryz.prog 102 #[.iface ty1 v1,.iface ty2 v2] w.drew fun e w1=>e=.returned (.tuple #[])∧Hid (∃ PJ:Nat->Prop,GM w1 PJ (glueT x y) (.iface ty1 v1)∧∀ z,PJ z->(Q l z∨Q (l+1) z∨N<=z)∧z<w1.heap.size)∧Fr (Q l) w w1):=by
  refine hj2.mono ?_
  rintro e w1 ⟨rfl,hg,hf⟩
  exact⟨rfl,by rw[<-hN];exact hg,(Fr.of_below ((Below.refl _ w).drew)).trans hf⟩
 have hLN:L<N:=by have:=hP L hPL;omega
 have hbN:b<N:=by have:=hP b (h.blk b rfl).1;omega
 have hLQ:¬ Q l L:=fun e=>(h.sub l L e).2.1 rfl
 have hbQ:¬ Q l b:=fun e=>(h.sub l b e).2.2 rfl
 obtain⟨pg,hpg⟩:∃ pg,t.page=pg:=⟨_,rfl⟩
 rw[hpg] at hbox
 obtain⟨c0,c1⟩:=box_twoG hbox
 have lL:L<w.heap.size:=by omega
 have lb:b<w.heap.size:=by omega
 have hnc:n<=c∧c<=maxLen:=by
  rcases hrow.2 with ⟨e,e2⟩ | ⟨g,cap,cur,e,_,_,h3,h4,_⟩
  ·cases e
  ·simp only[Value.slice.injEq] at e;obtain⟨_,_,rfl⟩:=e;exact⟨h3,h4⟩
 have hnc1:=hnc.1
 have hnc2:=hnc.2
 unfold maxLen at hnc2
 have hw1:IntKind.i64.wrap ((l:Int)+1)=(l:Int)+1:=by rw[IntKind.wrap_i64];omega
 have HG:Hid ((glueT x y).size=x.size+y.size):=hgs
 have HK:Hid (0<k∧k<x.size+y.size∧x.size<=400∧y.size<=400):=⟨hk.1,hk.2,hnx,hny⟩
 have HPG:Hid (t.page=pg):=hpg
 have HEU:Hid (ul.getD l .nilIface=.iface ty1 v1):=eu1
 clear h hx hy hlf hsx hsy hnx hny hk hj hj2 g1 g2 eu1 eu2 hnc hgs hpg
 go_enter Tryz.func101,Tryz.ntmps101
 go_upto_region 0 with fail
 refine wp_region_noPanic ?_
 refine wp_region_held_drew (S:=(fun w':World=>w'.cell? ⟨L,1,none⟩=some (.slice (some ⟨b,0,none⟩) n c)∧w'.cell? ⟨b,l,none⟩=some (.iface ty1 v1)∧w'.cell? ⟨b,l+1,none⟩=some (.iface ty2 v2)∧L<w'.heap.size∧b<w'.heap.size)) (by kernel_rfl) (⟨c1,cl1,cl2,lL,lb⟩) (fun hHeld=>?_)
 refine tY 0 (.pointer (some ⟨L,0,none⟩)) .z (by kernel_rfl) (by rfl) ?_ ‹_› ?_
 ·intro wq hSw;go_simp
 refine tY 1 (.pointer (some ⟨L,0,none⟩)) (.s .z) (by kernel_rfl) (by rfl) ?_ ‹_› ?_
 ·intro wq hSw;go_simp
 refine tY 2 (.pointer (some ⟨L,1,none⟩)) (.s (.s .z)) (by kernel_rfl) (by rfl) ?_ ‹_› ?_
 ·intro wq hSw;go_simp
 refine tY 3 (.slice (some ⟨b,0,none⟩) n c) (.s (.s (.s .z))) (by kernel_rfl) (by rfl) ?_ ‹_› ?_
 ·intro wq hSw;(try dsimp only at hSw);obtain⟨y1,y2,y3,y4,y5⟩:=hSw;go_simp
 try simp only[Act.put,q1,q2,q3]
 refine tY 4 (.int .i64 (l:Int)) (.s (.s (.s (.s .z)))) (by kernel_rfl) (by rfl) ?_ ‹_› ?_
 ·intro wq hSw;go_simp
 refine tY 5 (.pointer (some ⟨b,l,none⟩)) (.f .z) (by kernel_rfl) (by rfl) ?_ ‹_› ?_
 ·intro wq hSw;go_simp;intro hh;omega
 refine tY 6 (.iface ty1 v1) (.f (.s .z)) (by kernel_rfl) (by rfl) ?_ ‹_› ?_
 ·intro wq hSw;(try dsimp only at hSw);obtain⟨y1,y2,y3,y4,y5⟩:=hSw;go_simp
 refine tY 7 (.pointer (some ⟨L,0,none⟩)) (.f (.s (.s .z))) (by kernel_rfl) (by rfl) ?_ ‹_› ?_
 ·intro wq hSw;go_simp
 try simp only[Act.put,q1,q2,q3]
 refine tY 8 (.pointer (some ⟨L,0,none⟩)) (.f (.s (.s (.s .z)))) (by kernel_rfl) (by rfl) ?_ ‹_› ?_
 ·intro wq hSw;go_simp
 refine tY 9 (.pointer (some ⟨L,1,none⟩)) (.f (.s (.s (.s (.s .z))))) (by kernel_rfl) (by rfl) ?_ ‹_› ?_
 ·intro wq hSw;go_simp
 refine tY 10 (.slice (some ⟨b,0,none⟩) n c) (.t .z) (by kernel_rfl) (by rfl) ?_ ‹_› ?_
 ·intro wq hSw;(try dsimp only at hSw);obtain⟨y1,y2,y3,y4,y5⟩:=hSw;go_simp
 refine tY 11 (.int .i64 (l:Int)) (.t (.s .z)) (by kernel_rfl) (by rfl) ?_ ‹_› ?_
 ·intro wq hSw;go_simp
 try simp only[Act.put,q1,q2,q3]
 refine tY 12 (.int .i64 ((l:Int)+1)) (.t (.s (.s .z))) (by kernel_rfl) (by rfl) ?_ ‹_› ?_
 ·intro wq hSw;go_simp
 refine tY 13 (.pointer (some ⟨b,l+1,none⟩)) (.t (.s (.s (.s .z)))) (by kernel_rfl) (by rfl) ?_ ‹_› ?_
 ·intro wq hSw;go_simp;intro hh;omega
 refine tY 14 (.iface ty2 v2) (.t (.s (.s (.s (.s .z))))) (by kernel_rfl) (by rfl) ?_ ‹_› ?_
 ·intro wq hSw;(try dsimp only at hSw);obtain⟨y1,y2,y3,y4,y5⟩:=hSw;go_simp
 try simp only[Act.put,q1,q2,q3]
 refine wpAnyH_ready (rs:=[15]) (by kernel_rfl) (by simp) ?_
 refine rdA (.t (.f .z)) (fun K hK=>?_) AllReadyH.nil
 go_simp
 refine HJ.out.mono ?_
 rintro e w1 ⟨rfl,hg1,f1⟩
 have s1:=f1.size
 have k1:=f1.block L lL hLQ
 have k2:=f1.block b lb hbQ
 go_wp2_with fail
 refine hK.out _ _ (⟨(World.cell?_of_block (w:=w) (a:=⟨L,1,none⟩) k1).trans c1,(World.cell?_of_block (w:=w) (a:=⟨b,l,none⟩) k2).trans cl1,(World.cell?_of_block (w:=w) (a:=⟨b,l+1,none⟩) k2).trans cl2,by omega,by omega⟩) (fun hHeld=>?_)
 clear hK K
 try simp only[Act.put,q1,q2,q3]
 clear hHeld k1 k2
 refine wpAnyH_done (by kernel_rfl) ?_ _
 refine NoPanic.normal ?_
 have hbx1:=(f1.block L lL hLQ).trans hbox
 have row1:=owns_fr hrow f1 (fun g hg e=>by cases hg;exact hbQ e)
 obtain⟨PJ,gJ,pJ⟩:=hg1.out
 have hPJ:∀ z,PJ z->(P z∨N<=z)∧z≠L∧z≠b:=fun z hz=>by
  rcases (pJ z hz).1 with e | e | e
  ·have:=HH.out.sub l z e;exact⟨.inl this.1,this.2.1,fun e2=>this.2.2 (by rw[e2];rfl)⟩
  ·have:=HH.out.sub (l+1) z e;exact⟨.inl this.1,this.2.1,fun e2=>this.2.2 (by rw[e2];rfl)⟩
  ·exact⟨.inr e,by omega,by omega⟩
 have hpt:=part_any gJ.drew k HK.out.1 (by rw[HG.out];exact HK.out.2.1) (by rw[HG.out];have:=HK.out;omega) (fun z hz=>(pJ z hz).2)
 have HPT:Hid (Calls Tryz.prog 104 #[.iface ty1 v1,.int .i64 k] w1.drew fun e w2=>∃ ty3 v3,e=.returned (.iface ty3 v3)∧(w2.cell? ⟨b,l+1,none⟩=some (.iface ty2 v2)∧w2.frozen? ⟨b,l+1,none⟩=false∧b<w2.heap.size∧L<w2.heap.size)∧KidsAns w P t L ((t.kids.set l ((glueT x y).fore k)).set (l+1) ((glueT x y).rest k)) (.returned (.tuple #[])) (w2.setCell ⟨b,l+1,none⟩ (.iface ty3 v3))∧(w2.cell? ⟨L,1,none⟩=some (.slice (some ⟨b,0,none⟩) n c)∧w2.cell? ⟨b,l,none⟩=some (.iface ty1 v1)∧L<w2.heap.size∧b<w2.heap.size)∧((w2.setCell ⟨b,l+1,none⟩ (.iface ty3 v3)).cell? ⟨L,1,none⟩=some (.slice (some ⟨b,0,none⟩) n c)∧(w2.setCell ⟨b,l+1,none⟩ (.iface ty3 v3)).cell? ⟨b,l,none⟩=some (.iface ty1 v1)∧L<(w2.setCell ⟨b,l+1,none⟩ (.iface ty3 v3)).heap.size∧b<(w2.setCell ⟨b,l+1,none⟩ (.iface ty3 v3)).heap.size)):=by
  refine hpt.mono ?_
  rintro e w2 ⟨u2,rfl,⟨P1,P2,q1,q2,hdis,hpp⟩,f2⟩
  obtain⟨ty3,v3,rfl⟩:=q2.shape
  have f12:Fr PJ w1 w2:=(Fr.of_below ((Below.refl _ w1).drew)).trans f2
  have s2:=f12.size
  have row2:=owns_fr row1 f12 (fun g hg e=>by cases hg;exact (hPJ b e).2.2 rfl)
  have cb2:=row2.cellAt (l+1) (by omega)
  have hbl2:b<w2.heap.size:=by omega
  have hcl2:ul[l+1]?=some (.iface ty2 v2):=by
   have:=hrow.cellAt (l+1) (by omega)
   rw[<-this];exact cl2
  have f3:=fr_setT w2 b (l+1) (.iface ty3 v3)
  have row3:=(row2.stored (l+1) (.iface ty3 v3)).1
  have hPn:∀ z,P1 z∨P2 z->(PJ z∨w1.heap.size<=z)∧z<w2.heap.size:=hpp
  have hnb:∀ z,P1 z∨P2 z->z≠b:=fun z hz=>by
   rcases (hPn z hz).1 with e | e
   ·exact (hPJ z e).2.2
   ·omega
  have hI:=HH.out.two (w3:=w2.setCell ⟨b,l+1,none⟩ (.iface ty3 v3)) hP hl (P1:=P1) (P2:=P2) (k1:=(glueT x y).fore k) (k2:=(glueT x y).rest k) (u2:=.iface ty3 v3) (fun z hz n1 n2 n3=>by
   have hzN:=hP z hz
   have hzb:z≠b:=fun e=>n3 (by rw[e];rfl)
   have hzJ:¬ PJ z:=fun e=>by
    rcases (pJ z e).1 with e | e | e
    ·exact n1 e
    ·exact n2 e
    ·omega
   exact ((f3.block z (by omega) hzb).trans (f12.block z (by omega) hzJ)).trans (f1.block z hzN n1)) (by have:=f3.size;omega) row3
   (by rw[HEU.out];exact GM.keep _ P1 P1 _ (fun z hz=>f3.block z (hPn z (.inl hz)).2 (hnb z (.inl hz))) (fun _ h=>h) q1)
   (GM.keep _ P2 P2 _ (fun z hz=>f3.block z (hPn z (.inr hz)).2 (hnb z (.inr hz))) (fun _ h=>h) q2) hdis (fun z hz=>by
    have h9:=hPn z hz
    refine⟨?_,by have:=f3.size;omega⟩
    rcases h9.1 with e | e
    ·have:=(pJ z e).1;rw[<-hN] at this;exact this
    ·exact .inr (.inr (by omega)))
  have bL2:=(f12.block L (by omega) (fun e=>(hPJ L e).2.1 rfl)).trans hbx1
  have bL3:=(f3.block L (by omega) (fun e=>(HH.out.blk b rfl).2 e.symm)).trans bL2
  have s3:=f3.size
  have hcl1:ul[l]?=some (.iface ty1 v1):=by
   have:=hrow.cellAt l (by omega)
   rw[<-this];exact cl1
  refine⟨ty3,v3,rfl,⟨by rw[cb2];exact hcl2,row2.frozenAt _,hbl2,by omega⟩,?_,⟨(box_twoG bL2).2,by rw[row2.cellAt l (by omega)];exact hcl1,by omega,hbl2⟩,⟨(box_twoG bL3).2,by rw[row3.cellAt l (by omega),List.getElem?_set_ne (by omega)];exact hcl1,by omega,by omega⟩⟩
  refine⟨rfl,⟨_,_,_,_,_,_,hI,fun z hz=>⟨hz.1,hz.2⟩⟩,?_⟩
  refine fr_tight ?_
  have F1:Fr (fun z=>P z∨w.heap.size<=z) w w1:=f1.weak (fun z e=>.inl (HH.out.sub l z e).1)
  have F2:Fr (fun z=>P z∨w.heap.size<=z) w1 w2:=f12.weak (fun z e=>by rw[hN];exact (hPJ z e).1)
  exact (F1.trans F2).trans (f3.weak (fun z e=>by rw[e];exact .inl (HH.out.blk b rfl).1))
 have cl1':=(World.cell?_of_block (w:=w) (a:=⟨b,l,none⟩) (f1.block b lb hbQ)).trans cl1
 obtain⟨d0,d1⟩:=box_twoG hbx1
 have lL1:L<w1.heap.size:=by omega
 have lb1:b<w1.heap.size:=by omega
 clear hpt gJ pJ hPJ PJ hg1 hbx1 row1 c0 c1 cl1 cl2 f1 HJ
 go_upto_region 1 with fail
 refine wp_region_noPanic ?_
 refine wp_region_held_drew (S:=(fun w':World=>w'.cell? ⟨L,1,none⟩=some (.slice (some ⟨b,0,none⟩) n c)∧w'.cell? ⟨b,l,none⟩=some (.iface ty1 v1)∧L<w'.heap.size∧b<w'.heap.size)) (by kernel_rfl) (⟨d1,cl1',lL1,lb1⟩) (fun hHeld=>?_)
 refine tY 0 (.pointer (some ⟨L,0,none⟩)) .z (by kernel_rfl) (by rfl) ?_ ‹_› ?_
 ·intro wq hSw;go_simp
 refine tY 1 (.pointer (some ⟨L,0,none⟩)) (.s .z) (by kernel_rfl) (by rfl) ?_ ‹_› ?_
 ·intro wq hSw;go_simp
 refine tY 2 (.pointer (some ⟨L,1,none⟩)) (.s (.s .z)) (by kernel_rfl) (by rfl) ?_ ‹_› ?_
 ·intro wq hSw;go_simp
 refine tY 3 (.slice (some ⟨b,0,none⟩) n c) (.s (.s (.s .z))) (by kernel_rfl) (by rfl) ?_ ‹_› ?_
 ·intro wq hSw;(try dsimp only at hSw);obtain⟨y1,y2,y4,y5⟩:=hSw;go_simp
 try simp only[Act.put,q1,q2,q3]
 refine tY 4 (.int .i64 (l:Int)) (.s (.s (.s (.s .z)))) (by kernel_rfl) (by rfl) ?_ ‹_› ?_
 ·intro wq hSw;go_simp
 refine tY 5 (.int .i64 ((l:Int)+1)) (.f .z) (by kernel_rfl) (by rfl) ?_ ‹_› ?_
 ·intro wq hSw;go_simp
 refine tY 6 (.pointer (some ⟨L,0,none⟩)) (.f (.s .z)) (by kernel_rfl) (by rfl) ?_ ‹_› ?_
 ·intro wq hSw;go_simp
 refine tY 7 (.pointer (some ⟨L,0,none⟩)) (.f (.s (.s .z))) (by kernel_rfl) (by rfl) ?_ ‹_› ?_
 ·intro wq hSw;go_simp
 try simp only[Act.put,q1,q2,q3]
 refine tY 8 (.pointer (some ⟨L,1,none⟩)) (.f (.s (.s (.s .z)))) (by kernel_rfl) (by rfl) ?_ ‹_› ?_
 ·intro wq hSw;go_simp
 refine tY 9 (.slice (some ⟨b,0,none⟩) n c) (.f (.s (.s (.s (.s .z))))) (by kernel_rfl) (by rfl) ?_ ‹_› ?_
 ·intro wq hSw;(try dsimp only at hSw);obtain⟨y1,y2,y4,y5⟩:=hSw;go_simp
 refine tY 10 (.int .i64 (l:Int)) (.t .z) (by kernel_rfl) (by rfl) ?_ ‹_› ?_
 ·intro wq hSw;go_simp
 refine tY 11 (.pointer (some ⟨b,l,none⟩)) (.t (.s .z)) (by kernel_rfl) (by rfl) ?_ ‹_› ?_
 ·intro wq hSw;go_simp;intro hh;omega
 try simp only[Act.put,q1,q2,q3]
 refine tY 12 (.iface ty1 v1) (.t (.s (.s .z))) (by kernel_rfl) (by rfl) ?_ ‹_› ?_
 ·intro wq hSw;(try dsimp only at hSw);obtain⟨y1,y2,y4,y5⟩:=hSw;go_simp
 refine tY 13 (.int .i64 (k:Int)) (.t (.s (.s (.s .z)))) (by kernel_rfl) (by rfl) ?_ ‹_› ?_
 ·intro wq hSw;go_simp
 try simp only[Act.put,q1,q2,q3]
 refine wpAnyH_ready (rs:=[14]) (by kernel_rfl) (by simp) ?_
 refine rdA (.t (.s (.s (.s (.s .z))))) (fun K hK=>?_) AllReadyH.nil
 go_simp
 refine HPT.out.mono ?_
 rintro e w2 ⟨ty3,v3,rfl,⟨z1,z2,z3,z4⟩,hfin,hS2,hS3⟩
 have HFIN:Hid (KidsAns w P t L ((t.kids.set l ((glueT x y).fore k)).set (l+1) ((glueT x y).rest k)) (.returned (.tuple #[])) (w2.setCell ⟨b,l+1,none⟩ (.iface ty3 v3))):=hfin
 have HS3:Hid _:=hS3
 clear hfin hS3
 go_wp2_with fail
 refine hK.out _ _ (hS2) (fun hHeld=>?_)
 clear hK K
 refine tY 15 (.pointer (some ⟨b,l+1,none⟩)) (.t (.f .z)) (by kernel_rfl) (by rfl) ?_ ‹_› ?_
 ·intro wq hSw;go_simp;intro hh;omega
 try simp only[Act.put,q1,q2,q3]
 refine wpAnyH_ready (rs:=[16]) (by kernel_rfl) (by simp) ?_
 refine rdA (.t (.f (.s .z))) (fun K hK=>?_) AllReadyH.nil
 go_simp
 refine hK.out _ _ (HS3.out) (fun hHeld=>?_)
 clear hK K
 try simp only[Act.put,q1,q2,q3]
 refine wpAnyH_done (by kernel_rfl) ?_ _
 refine NoPanic.normal ?_
 clear hHeld
 go_wp2_with fail
 go_end0
 exact HFIN.out
def Lens (x:T):Prop:=(x.leaf=true->x.vals.length=x.keys.length∧x.over.length=x.keys.length∧x.kids=[])∧(x.leaf=false->x.keys=[]∧x.vals=[]∧x.over=[])
theorem glue_low {x y:T} (hx:Lens x) (hy:Lens y) (hk:x.leaf=y.leaf) {k:Nat} (h:k<=x.size):(glueT x y).fore k=x.fore k∧(glueT x y).rest k=glueT (x.rest k) y:=by
 unfold T.size at h
 unfold glueT T.fore T.rest
 cases hl:x.leaf
 ·obtain⟨e1,e2,e3⟩:=hx.2 hl
  obtain⟨d1,d2,d3⟩:=hy.2 (by rw[<-hk,hl])
  rw[hl] at h
  simp only[Bool.false_eq_true,if_false] at h
  simp[e1,e2,e3,d1,d2,d3,List.take_append_of_le_length h,List.drop_append_of_le_length h,hl]
 ·obtain⟨e1,e2,e3⟩:=hx.1 hl
  obtain⟨d1,d2,d3⟩:=hy.1 (by rw[<-hk,hl])
  rw[hl] at h
  simp only[if_true] at h
  simp[e3,d3,List.take_append_of_le_length h,List.drop_append_of_le_length h,List.take_append_of_le_length (l₁:=x.vals) (i:=k) (by omega),List.drop_append_of_le_length (l₁:=x.vals) (i:=k) (by omega),List.take_append_of_le_length (l₁:=x.over) (i:=k) (by omega),List.drop_append_of_le_length (l₁:=x.over) (i:=k) (by omega),hl]
theorem take_add {α:Type} (a b:List α) (k n:Nat) (h:a.length=n):(a++b).take (n+k)=a++b.take k∧(a++b).drop (n+k)=b.drop k:=by
 subst h
 exact⟨List.take_length_add_append ..,List.drop_length_add_append ..⟩
theorem glue_high {x y:T} (hx:Lens x) (hy:Lens y) (hk:x.leaf=y.leaf) (k:Nat):(glueT x y).fore (x.size+k)=glueT x (y.fore k)∧(glueT x y).rest (x.size+k)=y.rest k:=by
 unfold T.size glueT T.fore T.rest
 cases hl:x.leaf
 ·obtain⟨e1,e2,e3⟩:=hx.2 hl
  obtain⟨d1,d2,d3⟩:=hy.2 (by rw[<-hk,hl])
  have:=take_add x.kids y.kids k _ rfl
  simp[e1,e2,e3,d1,d2,d3,this.1,this.2,<-hk,hl]
 ·obtain⟨e1,e2,e3⟩:=hx.1 hl
  obtain⟨d1,d2,d3⟩:=hy.1 (by rw[<-hk,hl])
  have t1:=take_add x.keys y.keys k _ rfl
  have t2:=take_add x.vals y.vals k _ e1
  have t3:=take_add x.over y.over k _ e2
  simp[e3,d3,t1.1,t1.2,t2.1,t2.2,t3.1,t3.2,<-hk,hl]
theorem set_two {ys:List T} {l:Nat} {A B:T} (h:l+1<ys.length):(ys.set l A).set (l+1) B=ys.take l++[A,B]++ys.drop (l+2):=by
 rw[setT_one (by rw[List.length_set];exact h)]
 have e1:(ys.set l A).take (l+1)=ys.take l++[A]:=by
  rw[setT_one (by omega),List.take_append_of_le_length (by simp;omega),List.take_of_length_le (by simp;omega)]
 have e2:(ys.set l A).drop (l+1+1)=ys.drop (l+2):=by rw[List.drop_set_of_lt (by omega)]
 rw[e1,e2]
 simp
theorem even_left {ys:List T} {l:Nat} {x y:T} (hx:ys[l]?=some x) (hy:ys[l+1]?=some y) (lx:Lens x) (ly:Lens y) (hk:x.leaf=y.leaf):(ys.set l ((glueT x y).fore (x.size - 1))).set (l+1) ((glueT x y).rest (x.size - 1))=repl2 ys l giveR:=by
 rw[set_two (List.getElem?_eq_some_iff.1 hy).1]
 unfold repl2 giveR
 have h:=glue_low lx ly hk (k:=x.size - 1) (by omega)
 simp only[List.getD,hx,hy,Option.getD_some,h.1,h.2]
theorem even_right {ys:List T} {l:Nat} {x y:T} (hx:ys[l]?=some x) (hy:ys[l+1]?=some y) (lx:Lens x) (ly:Lens y) (hk:x.leaf=y.leaf):(ys.set l ((glueT x y).fore (x.size+1))).set (l+1) ((glueT x y).rest (x.size+1))=repl2 ys l giveL:=by
 rw[set_two (List.getElem?_eq_some_iff.1 hy).1]
 unfold repl2 giveL
 have h:=glue_high lx ly hk 1
 simp only[List.getD,hx,hy,Option.getD_some,h.1,h.2]
theorem kid_size {w:World} {P:Nat->Prop} {t:T} {L:Nat} {a:Option Addr} {n c m:Nat} {ul:List Value} {Q:Nat->Nat->Prop} (h:GMI w P t L a n c ul Q) {x:T} (hx:t.kids[m]?=some x):∃ b ty v,a=some ⟨b,0,none⟩∧ul.getD m .nilIface=.iface ty v∧w.cell? ⟨b,m,none⟩=some (.iface ty v)∧Obs w ty v "loop.example/s02098/impl.size" (.int .i64 x.size):=by
 obtain⟨b,ty,v,e1,e2,e3⟩:=getD_kid h (show m<n by have:=(List.getElem?_eq_some_iff.1 hx).1;have:=h.len;omega)
 have hk:=h.kid m x (List.mem_of_getElem? hx) hx
 rw[e2] at hk
 exact⟨b,ty,v,e1,e2,e3,hk.size⟩
theorem row_cap {w:World} {P:Nat->Prop} {t:T} {L:Nat} {a:Option Addr} {n c:Nat} {ul:List Value} {Q:Nat->Nat->Prop} (h:GMI w P t L a n c ul Q):n<=c∧c<=maxLen:=by
 rcases h.row.2 with ⟨e,e2⟩ | ⟨g,cap,cur,e,_,_,h3,h4,_⟩
 ·simp only[Value.slice.injEq] at e;exact⟨by omega,by omega⟩
 ·simp only[Value.slice.injEq] at e;obtain⟨_,_,rfl⟩:=e;exact⟨h3,h4⟩
theorem oneKid_any {w:World} {P:Nat->Prop} {t:T} {L:Nat} {a:Option Addr} {n c l:Nat} {ul:List Value} {Q:Nat->Nat->Prop} (h:GMI w P t L a n c ul Q) (hP:∀ b,P b->b<w.heap.size) (hl:l+1<n) (hn:n<=1000) {x y:T} (hx:t.kids[l]?=some x) (hy:t.kids[l+1]?=some y) (hlf:x.leaf=y.leaf) (lx:Lens x) (ly:Lens y) (hnx:x.size<=400) (hny:y.size<=400) {w1:World}
  (hf1:Fr (Q l) w w1) (hg1:∃ PJ:Nat->Prop,GM w1 PJ (glueT x y) (ul.getD l .nilIface)∧∀ z,PJ z->(Q l z∨Q (l+1) z∨w.heap.size<=z)∧z<w1.heap.size) :
  w1.heap[L]?=some (.cells #[.int .i64 t.page,.slice a n c] 100)∧Calls Tryz.prog 103 #[.slice a n c,.int .i64 ((l:Int)+1),.int .i64 ((l:Int)+2)] w1 fun e w2=>e=.returned (.slice a (n - 1) c)∧w2.heap[L]?=some (.cells #[.int .i64 t.page,.slice a n c] 100)∧KidsAns w P t L (repl2 t.kids l (fun x y=>[glueT x y])) (.returned (.tuple #[])) (w2.setCell ⟨L,1,none⟩ (.slice a (n - 1) c)):=by
 obtain⟨m,rfl⟩:∃ m,n=m+1:=⟨n - 1,by omega⟩
 obtain⟨PJ,gJ,pJ⟩:=hg1
 have s1:=hf1.size
 have hL:=hP L h.at'
 have hbx1:=(hf1.block L hL (fun e=>(h.sub l L e).2.1 rfl)).trans h.box
 have row1:=owns_fr h.row hf1 (fun g hg e=>(h.sub l g e).2.2 hg)
 have hd:=deleteNode_any (l+1) m c a ul w1 row1 (by omega) (by omega) h.one
 have e2:((l+1:Nat):Int)+1=(l:Int)+2:=by omega
 rw[e2,show ((l+1:Nat):Int)=(l:Int)+1 by omega] at hd
 refine⟨hbx1,hd.mono ?_⟩
 rintro e w2 ⟨rfl,row2,f2⟩
 have s2:=f2.size
 have hbx2:=(f2.block L (by omega) (fun e=>(h.blk L e).2 rfl)).trans hbx1
 have f3:=fr_setT w2 L 1 (.slice a m c)
 have s3:=f3.size
 have hown:(Value.slice a m c).ownBlock=(Value.slice a (m+1) c).ownBlock:=by cases a<;>rfl
 have hPJ:∀ z,PJ z->(P z∨w.heap.size<=z)∧z≠L∧(Value.slice a (m+1) c).ownBlock≠some z:=fun z hz=>by
  rcases (pJ z hz).1 with e | e | e
  ·have:=h.sub l z e;exact⟨.inl this.1,this.2⟩
  ·have:=h.sub (l+1) z e;exact⟨.inl this.1,this.2⟩
  ·exact⟨.inr e,by omega,fun e2=>by have:=hP z (h.blk z e2).1;omega⟩
 have hI:=h.less (w3:=w2.setCell ⟨L,1,none⟩ (.slice a m c)) hP (by omega) (P1:=PJ) (k1:=glueT x y) (fun z hz n1 n2 n3=>by
  have hzN:=hP z hz
  exact ((f3.block z (by omega) n2).trans (f2.block z (by omega) n3)).trans (hf1.block z hzN n1)) (by simpa using heap_setT hbx2 1 (.slice a m c)) (by omega)
  (owns_fr row2 f3 (fun g hg e=>by rw[hown] at hg;exact (h.blk g hg).2 e))
  (GM.keep _ PJ PJ _ (fun z hz=>(f3.block z (by have:=(pJ z hz).2;omega) (hPJ z hz).2.1).trans (f2.block z (pJ z hz).2 (hPJ z hz).2.2)) (fun _ h=>h) gJ) (fun z hz=>⟨(pJ z hz).1,by have:=(pJ z hz).2;omega⟩)
 refine⟨rfl,hbx2,rfl,⟨_,_,_,_,_,_,hI.re (t':={ t with kids:=repl2 t.kids l (fun x y=>[glueT x y]) }) rfl ?_,fun z hz=>⟨hz.1,hz.2⟩⟩,fr_tight ?_⟩
 ·unfold repl2
  simp only[List.getD,hx,hy,Option.getD_some]
 ·have F1:Fr (fun z=>P z∨w.heap.size<=z) w w1:=hf1.weak (fun z e=>.inl (h.sub l z e).1)
  have F2:Fr (fun z=>P z∨w.heap.size<=z) w1 w2:=f2.weak (fun z e=>.inl (h.blk z e).1)
  exact (F1.trans F2).trans (f3.weak (fun z e=>by rw[e];exact .inl h.at'))
theorem mend_any {w:World} {P:Nat->Prop} {t:T} {L:Nat} {a:Option Addr} {n c m:Nat} {ul:List Value} {Q:Nat->Nat->Prop} (h:GMI w P t L a n c ul Q) (hP:∀ b,P b->b<w.heap.size) (hn:2<=n∧n<=4) {d:T} {ht:Int} (h0:0<=ht) (hd:t.kids[m]?=some d) (fd:Few d ht) (hr:∀ (j:Nat) z,j≠m->t.kids[j]?=some z->Fit z ht) :
  Calls Tryz.prog 99 #[.pointer (some ⟨L,0,none⟩),.int .i64 m] w fun e w'=>KidsAns w P t L (mendT t.kids m) e w':=by
 have hlen:=h.len
 have hmn:m<n:=by have:=(List.getElem?_eq_some_iff.1 hd).1;omega
 have hd1:d.size=1:=by have:=fd.soft.size;omega
 have hcap:=row_cap h
 have hcc:=hcap.1
 have hcm:=hcap.2
 unfold maxLen at hcm
 have hbox:=h.box
 obtain⟨pg,hpg⟩:∃ pg,t.page=pg:=⟨_,rfl⟩
 rw[hpg] at hbox
 obtain⟨c0,c1⟩:=box_twoG hbox
 have lL:L<w.heap.size:=hP L h.at'
 have cg1:=canGive_any h (by omega) ((m:Int) - 1) (by omega)
 have cg2:=canGive_any h (by omega) ((m:Int)+1) (by omega)
 by_cases q1:0<m∧2<(t.kids.getD (m - 1) leafT).size
 ·obtain⟨j,rfl⟩:∃ j,m=j+1:=⟨m - 1,by omega⟩
  obtain⟨x,hx⟩:∃ x,t.kids[j]?=some x:=⟨_,List.getElem?_eq_getElem (by omega)⟩
  have hxe:t.kids.getD j leafT=x:=by simp[List.getD,hx]
  have hx2:2<x.size:=by rw[<-hxe];simpa using q1.2
  have fx:=hr j x (by omega) hx
  have gb:giveB t.kids (((j+1:Nat):Int) - 1)=true:=by
   unfold giveB
   rw[show ((((j+1:Nat):Int) - 1).toNat)=j by omega,hxe]
   exact decide_eq_true ⟨by omega,by omega,hx2⟩
  rw[gb,show ((j+1:Nat):Int) - 1=(j:Int) by omega] at cg1
  obtain⟨s,hs⟩:∃ s,x.size=s+1:=⟨x.size - 1,by omega⟩
  have hk:=kinds h0 fx.neat fd.neat fx.ht fd.ht
  have hev:=even_any h hP (l:=j) (k:=s) (by omega) (by omega) hx hd hk fx.lens.1 fd.lens.1 (by have:=fx.size;omega) (by omega) ⟨by omega,by omega⟩
  have hml:(t.kids.set j ((glueT x d).fore s)).set (j+1) ((glueT x d).rest s)=mendT t.kids (j+1):=by
   have:=even_left hx hd fx.lens fd.lens hk
   rw[show x.size - 1=s by omega] at this
   rw[this]
   unfold mendT
   rw[if_pos q1]
   rfl
  rw[hml] at hev
  obtain⟨b,ty,v,rfl,eu,cl,hns,f2,r2,hms,hcs2,hsize⟩:=kid_size h hx
  rw[hs] at hsize
  have lb:b<w.heap.size:=lt_of_cellG cl
  have hsb:s<=4:=by have:=fx.size;omega
  have HE:Hid (Calls Tryz.prog 101 #[.pointer (some ⟨L,0,none⟩),.int .i64 j,.int .i64 s] w fun e w'=>KidsAns w P t L (mendT t.kids (j+1)) e w'):=hev
  clear hev hml q1 hx hxe hx2 fx gb hs hk cg2 hd fd hr h eu hcap hpg hbox hlen
  have hs1:((s+1:Nat):Int) - 1=(s:Int):=by omega
  have hj1:((j+1:Nat):Int) - 1=(j:Int):=by omega
  go_enter Tryz.func99,Tryz.ntmps99
  go_wp2_with fail
  refine cg1.mono ?_
  rintro e w1 ⟨rfl,rfl⟩
  go_wp2_with fail
  refine hsize.mono ?_
  rintro e w2 ⟨rfl,rfl⟩
  go_wp2_with fail
  refine HE.out.mono ?_
  intro e w3 hfin
  have hrt:=hfin.1
  subst hrt
  have HF:Hid (KidsAns w2 P t L (mendT t.kids (j+1)) (.returned (.tuple #[])) w3):=hfin
  clear hfin
  go_wp2_with fail
  go_end0
  exact HF.out
 ·have gb:giveB t.kids ((m:Int) - 1)=false:=by
   unfold giveB
   refine decide_eq_false (fun e=>q1 ⟨by omega,?_⟩)
   have:=e.2.2
   rwa [show ((m:Int) - 1).toNat=m - 1 by omega] at this
  rw[gb] at cg1
  by_cases q2:m+1<t.kids.length∧2<(t.kids.getD (m+1) leafT).size
  ·obtain⟨y,hy⟩:∃ y,t.kids[m+1]?=some y:=⟨_,List.getElem?_eq_getElem q2.1⟩
   have hye:t.kids.getD (m+1) leafT=y:=by simp[List.getD,hy]
   have hy2:2<y.size:=by rw[<-hye];exact q2.2
   have fy:=hr (m+1) y (by omega) hy
   have gb2:giveB t.kids ((m:Int)+1)=true:=by
    unfold giveB
    rw[show ((m:Int)+1).toNat=m+1 by omega,hye]
    exact decide_eq_true ⟨by omega,by omega,hy2⟩
   rw[gb2] at cg2
   have hk:=kinds h0 fd.neat fy.neat fd.ht fy.ht
   have hev:=even_any h hP (l:=m) (k:=2) (by omega) (by omega) hd hy hk fd.lens.1 fy.lens.1 (by omega) (by have:=fy.size;omega) ⟨by omega,by omega⟩
   have hml:(t.kids.set m ((glueT d y).fore 2)).set (m+1) ((glueT d y).rest 2)=mendT t.kids m:=by
    have:=even_right hd hy fd.lens fy.lens hk
    rw[hd1] at this
    rw[this]
    unfold mendT
    rw[if_neg q1,if_pos q2]
   rw[hml] at hev
   obtain⟨b,ty,v,rfl,eu,cl,hns,f2,r2,hms,hcs2,hsize⟩:=kid_size h hd
   rw[hd1] at hsize
   have lb:b<w.heap.size:=lt_of_cellG cl
   have HE:Hid (Calls Tryz.prog 101 #[.pointer (some ⟨L,0,none⟩),.int .i64 m,.int .i64 2] w fun e w'=>KidsAns w P t L (mendT t.kids m) e w'):=hev
   clear hev hml q1 q2 hy hye hy2 fy gb gb2 hk hd fd hr h eu hcap hpg hbox hlen
   go_enter Tryz.func99,Tryz.ntmps99
   go_wp2_with fail
   refine cg1.mono ?_
   rintro e w1 ⟨rfl,rfl⟩
   go_wp2_with fail
   refine cg2.mono ?_
   rintro e w2 ⟨rfl,rfl⟩
   go_wp2_with fail
   refine hsize.mono ?_
   rintro e w3 ⟨rfl,rfl⟩
   go_wp2_with fail
   refine HE.out.mono ?_
   intro e w4 hfin
   have hrt:=hfin.1
   subst hrt
   have HF:Hid (KidsAns w3 P t L (mendT t.kids m) (.returned (.tuple #[])) w4):=hfin
   clear hfin
   go_wp2_with fail
   go_end0
   exact HF.out
  ·have gb2:giveB t.kids ((m:Int)+1)=false:=by
    unfold giveB
    refine decide_eq_false (fun e=>q2 ⟨by omega,?_⟩)
    have:=e.2.2
    rwa [show ((m:Int)+1).toNat=m+1 by omega] at this
   rw[gb2] at cg2
   obtain⟨l,hlm⟩:∃ l,m - 1=l:=⟨_,rfl⟩
   have hl1:l+1<n:=by omega
   obtain⟨x,hx⟩:∃ x,t.kids[l]?=some x:=⟨_,List.getElem?_eq_getElem (by omega)⟩
   obtain⟨y,hy⟩:∃ y,t.kids[l+1]?=some y:=⟨_,List.getElem?_eq_getElem (by omega)⟩
   have hxy:x.leaf=y.leaf∧Lens x∧Lens y∧x.size<=400∧y.size<=400:=by
    rcases Nat.eq_zero_or_pos m with hm0 | hm0
    ·obtain rfl:l=m:=by omega
     rw[hd] at hx
     cases hx
     have fy:=hr (l+1) y (by omega) hy
     exact⟨kinds h0 fd.neat fy.neat fd.ht fy.ht,fd.lens,fy.lens,by omega,by have:=fy.size;omega⟩
    ·obtain rfl:m=l+1:=by omega
     rw[hd] at hy
     cases hy
     have fx:=hr l x (by omega) hx
     exact⟨kinds h0 fx.neat fd.neat fx.ht fd.ht,fx.lens,fd.lens,by have:=fx.size;omega,by omega⟩
   obtain⟨hk,lx,ly,sx,sy⟩:=hxy
   have hmt:mendT t.kids m=repl2 t.kids l (fun x y=>[glueT x y]):=by unfold mendT;rw[if_neg q1,if_neg q2,hlm]
   rw[hmt]
   obtain⟨b,ty1,v1,rfl,eu1,cl1⟩:=getD_kid h (show l<n by omega)
   obtain⟨_,ty2,v2,e9,eu2,cl2⟩:=getD_kid h hl1
   cases e9
   have g1:=h.kid l x (List.mem_of_getElem? hx) hx
   have g2:=h.kid (l+1) y (List.mem_of_getElem? hy) hy
   rw[eu1] at g1
   rw[eu2] at g2
   have hj:=join_any g1.drew g2.drew hk lx.1 ly.1 (by omega) (by omega) (fun z hz=>hP z (h.sub l z hz).1) (fun z hz=>hP z (h.sub (l+1) z hz).1) (fun z h1 h2=>by have:=h.dis l (l+1) z h1 h2;omega)
   have HJ:Hid (Calls Tryz.prog 102 #[.iface ty1 v1,.iface ty2 v2] w.drew fun e w1=>e=.returned (.tuple #[])∧w1.heap[L]?=some (.cells #[.int .i64 pg,.slice (some ⟨b,0,none⟩) n c] 100)∧(w1.cell? ⟨b,l,none⟩=some (.iface ty1 v1)∧w1.cell? ⟨b,l+1,none⟩=some (.iface ty2 v2)∧b<w1.heap.size)∧Hid (Calls Tryz.prog 103 #[.slice (some ⟨b,0,none⟩) n c,.int .i64 ((l:Int)+1),.int .i64 ((l:Int)+2)] w1 fun e w2=>e=.returned (.slice (some ⟨b,0,none⟩) (n - 1) c)∧w2.heap[L]?=some (.cells #[.int .i64 pg,.slice (some ⟨b,0,none⟩) n c] 100)∧KidsAns w P t L (repl2 t.kids l (fun x y=>[glueT x y])) (.returned (.tuple #[])) (w2.setCell ⟨L,1,none⟩ (.slice (some ⟨b,0,none⟩) (n - 1) c)))):=by
    refine hj.mono ?_
    rintro e w1 ⟨rfl,hg,hf⟩
    have:=oneKid_any h hP hl1 (by omega) hx hy hk lx ly sx sy ((Fr.of_below ((Below.refl _ w).drew)).trans hf) (by rw[eu1];exact hg)
    rw[hpg] at this
    have lb:b<w.heap.size:=lt_of_cellG cl1
    have kb:=hf.block b lb (fun e=>(h.sub l b e).2.2 rfl)
    have sf:w.heap.size<=w1.heap.size:=hf.size
    exact⟨rfl,this.1,⟨(World.cell?_of_block (w:=w) (a:=⟨b,l,none⟩) kb).trans cl1,(World.cell?_of_block (w:=w) (a:=⟨b,l+1,none⟩) kb).trans cl2,by omega⟩,this.2⟩
   have lb:b<w.heap.size:=lt_of_cellG cl1
   have hLQ:w.cell? ⟨L,1,none⟩=some (.slice (some ⟨b,0,none⟩) n c):=c1
   have hmx:m=l+1∨(m=0∧l=0):=by omega
   have HKA:Hid (∀ w1:World,w1.heap[L]?=some (.cells #[.int .i64 pg,.slice (some ⟨b,0,none⟩) n c] 100)->w1.cell? ⟨L,1,none⟩=some (.slice (some ⟨b,0,none⟩) n c)∧w1.frozen? ⟨L,1,none⟩=false∧L<w1.heap.size):=fun w1 hb=>⟨(box_twoG hb).2,thawT hb 1,(Array.getElem?_eq_some_iff.1 hb).1⟩
   clear hj g1 g2 eu1 eu2 hx hy hk lx ly sx sy hmt q1 q2 gb gb2 hd fd hr h hcap hpg hbox hlen hlm
   have hw1:IntKind.i64.wrap ((l:Int)+1)=(l:Int)+1:=by rw[IntKind.wrap_i64];omega
   have hw2:IntKind.i64.wrap ((l:Int)+2)=(l:Int)+2:=by rw[IntKind.wrap_i64];omega
   have hmax:max (l:Int) 0=(l:Int):=by omega
   rcases hmx with rfl | ⟨rfl,rfl⟩
   ·rw[show ((l+1:Nat):Int) - 1=(l:Int) by omega] at cg1
    rw[show ((l+1:Nat):Int)+1=(l:Int)+1+1 by omega] at cg2
    go_enter Tryz.func99,Tryz.ntmps99
    go_wp2_with fail
    refine cg1.mono ?_
    rintro e w1 ⟨rfl,rfl⟩
    go_wp2_with fail
    refine cg2.mono ?_
    rintro e w2 ⟨rfl,rfl⟩
    go_upto_region 1 with fail
    refine wp_region_noPanic ?_
    refine wp_region_held_drew (S:=(fun w':World=>w'.cell? ⟨L,1,none⟩=some (.slice (some ⟨b,0,none⟩) n c)∧w'.cell? ⟨b,l,none⟩=some (.iface ty1 v1)∧w'.cell? ⟨b,l+1,none⟩=some (.iface ty2 v2)∧L<w'.heap.size∧b<w'.heap.size)) (by kernel_rfl) (⟨c1,cl1,cl2,lL,lb⟩) (fun hHeld=>?_)
    refine tY 0 (.pointer (some ⟨L,0,none⟩)) .z (by kernel_rfl) (by rfl) ?_ ‹_› ?_
    ·intro wq hSw;go_simp
    refine tY 1 (.pointer (some ⟨L,0,none⟩)) (.s .z) (by kernel_rfl) (by rfl) ?_ ‹_› ?_
    ·intro wq hSw;go_simp
    refine tY 2 (.pointer (some ⟨L,1,none⟩)) (.s (.s .z)) (by kernel_rfl) (by rfl) ?_ ‹_› ?_
    ·intro wq hSw;go_simp
    refine tY 3 (.slice (some ⟨b,0,none⟩) n c) (.s (.s (.s .z))) (by kernel_rfl) (by rfl) ?_ ‹_› ?_
    ·intro wq hSw;(try dsimp only at hSw);obtain⟨y1,y2,y3,y4,y5⟩:=hSw;go_simp
    try simp only[Act.put,q1,q2,q3]
    refine tY 4 (.int .i64 (l:Int)) (.s (.s (.s (.s .z)))) (by kernel_rfl) (by rfl) ?_ ‹_› ?_
    ·intro wq hSw;go_simp
    refine tY 5 (.pointer (some ⟨b,l,none⟩)) (.f .z) (by kernel_rfl) (by rfl) ?_ ‹_› ?_
    ·intro wq hSw;go_simp;intro hh;omega
    refine tY 6 (.iface ty1 v1) (.f (.s .z)) (by kernel_rfl) (by rfl) ?_ ‹_› ?_
    ·intro wq hSw;(try dsimp only at hSw);obtain⟨y1,y2,y3,y4,y5⟩:=hSw;go_simp
    refine tY 7 (.pointer (some ⟨L,0,none⟩)) (.f (.s (.s .z))) (by kernel_rfl) (by rfl) ?_ ‹_› ?_
    ·intro wq hSw;go_simp
    try simp only[Act.put,q1,q2,q3]
    refine tY 8 (.pointer (some ⟨L,0,none⟩)) (.f (.s (.s (.s .z)))) (by kernel_rfl) (by rfl) ?_ ‹_› ?_
    ·intro wq hSw;go_simp
    refine tY 9 (.pointer (some ⟨L,1,none⟩)) (.f (.s (.s (.s (.s .z))))) (by kernel_rfl) (by rfl) ?_ ‹_› ?_
    ·intro wq hSw;go_simp
    refine tY 10 (.slice (some ⟨b,0,none⟩) n c) (.t .z) (by kernel_rfl) (by rfl) ?_ ‹_› ?_
    ·intro wq hSw;(try dsimp only at hSw);obtain⟨y1,y2,y3,y4,y5⟩:=hSw;go_simp
    refine tY 11 (.int .i64 (l:Int)) (.t (.s .z)) (by kernel_rfl) (by rfl) ?_ ‹_› ?_
    ·intro wq hSw;go_simp
    try simp only[Act.put,q1,q2,q3]
    refine tY 12 (.int .i64 ((l:Int)+1)) (.t (.s (.s .z))) (by kernel_rfl) (by rfl) ?_ ‹_› ?_
    ·intro wq hSw;go_simp
    refine tY 13 (.pointer (some ⟨b,l+1,none⟩)) (.t (.s (.s (.s .z)))) (by kernel_rfl) (by rfl) ?_ ‹_› ?_
    ·intro wq hSw;go_simp;intro hh;omega
    refine tY 14 (.iface ty2 v2) (.t (.s (.s (.s (.s .z))))) (by kernel_rfl) (by rfl) ?_ ‹_› ?_
    ·intro wq hSw;(try dsimp only at hSw);obtain⟨y1,y2,y3,y4,y5⟩:=hSw;go_simp
    try simp only[Act.put,q1,q2,q3]
    refine wpAnyH_ready (rs:=[15]) (by kernel_rfl) (by simp) ?_
    refine rdA (.t (.f .z)) (fun K hK=>?_) AllReadyH.nil
    go_simp
    refine HJ.out.mono ?_
    rintro e w9 ⟨rfl,hbx9,⟨k1,k2,k3⟩,hdel⟩
    obtain⟨z1,z2,z3⟩:=HKA.out w9 hbx9
    go_wp2_with fail
    refine hK.out _ _ (⟨z1,k1,k2,z3,k3⟩) (fun hHeld=>?_)
    clear hK K
    try simp only[Act.put,q1,q2,q3]
    clear hHeld k1 k2 k3
    refine wpAnyH_done (by kernel_rfl) ?_ _
    refine NoPanic.normal ?_
    go_wp2_with fail
    refine hdel.out.mono ?_
    rintro e w10 ⟨rfl,hbx10,hfin⟩
    have HF:Hid (KidsAns w2 P t L (repl2 t.kids l (fun x y=>[glueT x y])) (.returned (.tuple #[])) (w10.setCell ⟨L,1,none⟩ (.slice (some ⟨b,0,none⟩) (n - 1) c))):=hfin
    obtain⟨y1,y2,y3⟩:=HKA.out w10 hbx10
    clear hfin hdel z1 z2 z3
    go_wp2_with fail
    go_end0
    exact HF.out
   ·rw[show ((0:Nat):Int) - 1=-1 by omega] at cg1
    rw[show ((0:Nat):Int)+1=1 by omega] at cg2
    rw[show ((0:Nat):Int)+1=1 by omega,show ((0:Nat):Int)+2=2 by omega,Nat.zero_add] at HJ
    rw[Nat.zero_add] at cl2
    have hmax0:max (-1:Int) 0=0:=by decide
    go_enter Tryz.func99,Tryz.ntmps99
    go_wp2_with fail
    refine cg1.mono ?_
    rintro e w1 ⟨rfl,rfl⟩
    go_wp2_with fail
    refine cg2.mono ?_
    rintro e w2 ⟨rfl,rfl⟩
    go_upto_region 1 with fail
    refine wp_region_noPanic ?_
    refine wp_region_held_drew (S:=(fun w':World=>w'.cell? ⟨L,1,none⟩=some (.slice (some ⟨b,0,none⟩) n c)∧w'.cell? ⟨b,0,none⟩=some (.iface ty1 v1)∧w'.cell? ⟨b,1,none⟩=some (.iface ty2 v2)∧L<w'.heap.size∧b<w'.heap.size)) (by kernel_rfl) (⟨c1,cl1,cl2,lL,lb⟩) (fun hHeld=>?_)
    refine tY 0 (.pointer (some ⟨L,0,none⟩)) .z (by kernel_rfl) (by rfl) ?_ ‹_› ?_
    ·intro wq hSw;go_simp
    refine tY 1 (.pointer (some ⟨L,0,none⟩)) (.s .z) (by kernel_rfl) (by rfl) ?_ ‹_› ?_
    ·intro wq hSw;go_simp
    refine tY 2 (.pointer (some ⟨L,1,none⟩)) (.s (.s .z)) (by kernel_rfl) (by rfl) ?_ ‹_› ?_
    ·intro wq hSw;go_simp
    refine tY 3 (.slice (some ⟨b,0,none⟩) n c) (.s (.s (.s .z))) (by kernel_rfl) (by rfl) ?_ ‹_› ?_
    ·intro wq hSw;(try dsimp only at hSw);obtain⟨y1,y2,y3,y4,y5⟩:=hSw;go_simp
    try simp only[Act.put,q1,q2,q3]
    refine tY 4 (.int .i64 0) (.s (.s (.s (.s .z)))) (by kernel_rfl) (by rfl) ?_ ‹_› ?_
    ·intro wq hSw;go_simp
    refine tY 5 (.pointer (some ⟨b,0,none⟩)) (.f .z) (by kernel_rfl) (by rfl) ?_ ‹_› ?_
    ·intro wq hSw;go_simp
    refine tY 6 (.iface ty1 v1) (.f (.s .z)) (by kernel_rfl) (by rfl) ?_ ‹_› ?_
    ·intro wq hSw;(try dsimp only at hSw);obtain⟨y1,y2,y3,y4,y5⟩:=hSw;go_simp
    refine tY 7 (.pointer (some ⟨L,0,none⟩)) (.f (.s (.s .z))) (by kernel_rfl) (by rfl) ?_ ‹_› ?_
    ·intro wq hSw;go_simp
    try simp only[Act.put,q1,q2,q3]
    refine tY 8 (.pointer (some ⟨L,0,none⟩)) (.f (.s (.s (.s .z)))) (by kernel_rfl) (by rfl) ?_ ‹_› ?_
    ·intro wq hSw;go_simp
    refine tY 9 (.pointer (some ⟨L,1,none⟩)) (.f (.s (.s (.s (.s .z))))) (by kernel_rfl) (by rfl) ?_ ‹_› ?_
    ·intro wq hSw;go_simp
    refine tY 10 (.slice (some ⟨b,0,none⟩) n c) (.t .z) (by kernel_rfl) (by rfl) ?_ ‹_› ?_
    ·intro wq hSw;(try dsimp only at hSw);obtain⟨y1,y2,y3,y4,y5⟩:=hSw;go_simp
    refine tY 11 (.int .i64 0) (.t (.s .z)) (by kernel_rfl) (by rfl) ?_ ‹_› ?_
    ·intro wq hSw;go_simp
    try simp only[Act.put,q1,q2,q3]
    refine tY 12 (.int .i64 1) (.t (.s (.s .z))) (by kernel_rfl) (by rfl) ?_ ‹_› ?_
    ·intro wq hSw;go_simp;rfl
    refine tY 13 (.pointer (some ⟨b,1,none⟩)) (.t (.s (.s (.s .z)))) (by kernel_rfl) (by rfl) ?_ ‹_› ?_
    ·intro wq hSw;go_simp;intro hh;omega
    refine tY 14 (.iface ty2 v2) (.t (.s (.s (.s (.s .z))))) (by kernel_rfl) (by rfl) ?_ ‹_› ?_
    ·intro wq hSw;(try dsimp only at hSw);obtain⟨y1,y2,y3,y4,y5⟩:=hSw;go_simp
    try simp only[Act.put,q1,q2,q3]
    refine wpAnyH_ready (rs:=[15]) (by kernel_rfl) (by simp) ?_
    refine rdA (.t (.f .z)) (fun K hK=>?_) AllReadyH.nil
    go_simp
    refine HJ.out.mono ?_
    rintro e w9 ⟨rfl,hbx9,⟨k1,k2,k3⟩,hdel⟩
    obtain⟨z1,z2,z3⟩:=HKA.out w9 hbx9
    go_wp2_with fail
    refine hK.out _ _ (⟨z1,k1,k2,z3,k3⟩) (fun hHeld=>?_)
    clear hK K
    try simp only[Act.put,q1,q2,q3]
    clear hHeld k1 k2 k3
    refine wpAnyH_done (by kernel_rfl) ?_ _
    refine NoPanic.normal ?_
    go_wp2_with fail
    refine hdel.out.mono ?_
    rintro e w10 ⟨rfl,hbx10,hfin⟩
    have HF:Hid (KidsAns w2 P t L (repl2 t.kids 0 (fun x y=>[glueT x y])) (.returned (.tuple #[])) (w10.setCell ⟨L,1,none⟩ (.slice (some ⟨b,0,none⟩) (n - 1) c))):=hfin
    obtain⟨y1,y2,y3⟩:=HKA.out w10 hbx10
    clear hfin hdel z1 z2 z3
    go_wp2_with fail
    go_end0
    exact HF.out
end Go.Proofs.YtbfggcekifaldaaGreat
