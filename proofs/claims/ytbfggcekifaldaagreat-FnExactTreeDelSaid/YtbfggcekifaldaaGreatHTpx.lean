import Derived.Test.YtbfggcekifaldaaGreatHTvl
namespace Go.Proofs.YtbfggcekifaldaaGreat
open Go.RowKit
set_option linter.unusedVariables false
set_option linter.unusedSimpArgs false
set_option maxRecDepth 100000
def Neat:T->Prop
 | ⟨l,_,k,v,o,y⟩=>(l=true->y=[])∧(l=false->k=[]∧v=[]∧o=[]∧y≠[])∧∀ z,z ∈ y->Neat z
theorem neat_eq (t:T):Neat t ↔ (t.leaf=true->t.kids=[])∧(t.leaf=false->t.keys=[]∧t.vals=[]∧t.over=[]∧t.kids≠[])∧∀ z ∈ t.kids,Neat z:=by cases t;rw[Neat]
theorem Neat.shape:∀ (t:T),Neat t->Shape t:=by
 intro t
 induction t using T.ind with
 | h t ih =>
  intro h
  rw[neat_eq] at h
  rw[shape_eq]
  exact⟨h.1,fun k hk=>ih k hk (h.2.2 k hk)⟩
theorem towO_none2 {key:ByteArray}:∀ (ys:List T),towO key ys=none->∀ (i:Nat) k,ys[i]?=some k->¬ leB k.low key=true
 | [],_,i,k,h=>by simp at h
 | t::r,hn,i,k,h=>by
  unfold towO at hn
  cases hr:towO key r with
  | some m=>rw[hr] at hn;cases hn
  | none =>
   rw[hr] at hn
   simp only[ite_eq_right_iff] at hn
   cases i with
   | zero=>simp at h;subst h;intro hc;exact absurd (hn hc) (by simp)
   | succ i=>exact towO_none2 r hr i k (by simpa using h)
theorem towO_some2 {key:ByteArray}:∀ (ys:List T) (m:Nat),towO key ys=some m->(∃ k,ys[m]?=some k∧leB k.low key=true)∧∀ (i:Nat) k,m<i->ys[i]?=some k->¬ leB k.low key=true
 | [],m,h=>by simp[towO] at h
 | t::r,m,h=>by
  unfold towO at h
  cases hr:towO key r with
  | some m' =>
   rw[hr] at h
   simp at h
   subst h
   obtain⟨⟨k,h1,h2⟩,h3⟩:=towO_some2 r m' hr
   refine⟨⟨k,by simpa using h1,h2⟩,fun i k hi hk=>?_⟩
   cases i with
   | zero=>omega
   | succ i=>exact h3 i k (by omega) (by simpa using hk)
  | none =>
   rw[hr] at h
   simp only[Option.ite_none_right_eq_some,Option.some.injEq] at h
   obtain⟨h1,rfl⟩:=h
   refine⟨⟨t,rfl,h1⟩,fun i k hi hk=>?_⟩
   cases i with
   | zero=>omega
   | succ i=>exact towO_none2 r hr i k (by simpa using hk)
theorem toward_tow {t:T} {key:ByteArray} (h0:0<t.kids.length):TowardIs t key (towN key t.kids):=by
 unfold towN
 cases h:towO key t.kids with
 | none =>
  refine⟨h0,.inl rfl,fun i k _ hk=>towO_none2 _ h i k hk⟩
 | some m =>
  obtain⟨⟨k,h1,h2⟩,h3⟩:=towO_some2 _ _ h
  exact⟨(List.getElem?_eq_some_iff.1 h1).1,.inr ⟨k,h1,h2⟩,h3⟩
theorem toward_split {t k:T} {key:ByteArray} {m:Nat} (hl:t.leaf=false) (hg:∃ r,t.good r=true) (hs:SortT t.slots) (hm:TowardIs t key m) (hk:t.kids[m]?=some k) :
  (∀ s ∈ ((t.kids.take m).map T.slots).flatten,lessB s.1 key=true)∧(∀ s ∈ ((t.kids.drop (m+1)).map T.slots).flatten,lessB key s.1=true)∧SortT k.slots∧t.slots=((t.kids.take m).map T.slots).flatten++k.slots++((t.kids.drop (m+1)).map T.slots).flatten:=by
 obtain⟨r,hg⟩:=hg
 have hsl:t.slots=(t.kids.map T.slots).flatten:=by rw[T.slots_eq,if_neg (by simp[hl]),List.nil_append]
 have hgk:∀ q ∈ t.kids,q.good false=true:=fun q hq=>goodG_kid hg hq
 have hkm:=List.mem_of_getElem? hk
 obtain⟨hi2,e2⟩:=List.getElem?_eq_some_iff.1 hk
 have hsp:t.kids=t.kids.take m++k::t.kids.drop (m+1):=by
  rw[<-e2,List.getElem_cons_drop,List.take_append_drop]
 have hfl:t.slots=((t.kids.take m).map T.slots).flatten++k.slots++((t.kids.drop (m+1)).map T.slots).flatten:=by
  rw[hsl]
  conv=>lhs;rw[hsp]
  simp
 have hs2:=hs
 unfold SortT at hs2
 rw[hfl,List.append_assoc,List.pairwise_append] at hs2
 obtain⟨_,hs3,hA⟩:=hs2
 rw[List.pairwise_append] at hs3
 obtain⟨hsk,hsC,hB⟩:=hs3
 refine⟨fun s hsm=>?_,fun s hsm=>?_,hsk,hfl⟩
 ·rcases hm.2.1 with h0 | ⟨k',hk',hle⟩
  ·subst h0;simp at hsm
  ·have hkk:k'=k:=by rw[hk] at hk';exact (Option.some.inj hk').symm
   subst hkk
   obtain⟨s',r',e'⟩:=List.exists_cons_of_ne_nil (slots_ne k' (hgk k' hkm))
   have hlow:=low_head k' (hgk k' hkm) s' r' e'
   have hlt:=hA s hsm s' (by rw[e'];simp)
   rw[hlow] at hlt
   rcases (le_iff _ _).1 hle with h5 | h5
   ·exact less_trans hlt h5
   ·rw[<-h5];exact hlt
 ·obtain⟨l,hlm,hsl2⟩:=List.mem_flatten.1 hsm
  obtain⟨q,hq,rfl⟩:=List.mem_map.1 hlm
  obtain⟨i,hi,hqe⟩:=List.mem_iff_getElem.1 hq
  have hqi:t.kids[m+1+i]?=some q:=by
   rw[<-List.getElem?_drop,List.getElem?_eq_getElem hi,hqe]
  have hnle:=hm.2.2 (m+1+i) q (by omega) hqi
  have hqm:=List.mem_of_getElem? hqi
  obtain⟨s',r',e'⟩:=List.exists_cons_of_ne_nil (slots_ne q (hgk q hqm))
  have hlow:=low_head q (hgk q hqm) s' r' e'
  have hkl:lessB key s'.1=true:=by
   rw[hlow]
   apply Classical.byContradiction
   intro hc
   apply hnle
   rw[le_iff]
   by_cases h9:lessB q.low key=true
   ·exact .inl h9
   ·exact .inr (less_tri h9 hc)
  have hsq:SortT q.slots:=by
   have h8:(List.map T.slots (t.kids.drop (m+1))).flatten.Pairwise (fun a b=>lessB a.1 b.1=true):=hsC
   rw[List.pairwise_flatten] at h8
   exact h8.1 _ hlm
  rw[e'] at hsl2 hsq
  rcases List.mem_cons.1 hsl2 with rfl | hin
  ·exact hkl
  ·exact less_trans hkl ((List.pairwise_cons.1 hsq).1 s hin)
theorem posT_append {key:ByteArray}:∀ (A B:List (ByteArray × ByteArray × Int)),(∀ s ∈ A,lessB s.1 key=true)->posT key (A++B)=A.length+posT key B
 | [],B,_=>by simp
 | a::A,B,h=>by
  rw[List.cons_append,posT,if_pos (h a (List.mem_cons_self ..)),posT_append A B (fun s hs=>h s (List.mem_cons_of_mem _ hs))]
  simp
  omega
theorem less_asymm {a b:ByteArray} (h:lessB a b=true):¬ lessB b a=true:=fun h2=>less_irrefl _ (less_trans h h2)
theorem posT_left {key:ByteArray}:∀ (B C:List (ByteArray × ByteArray × Int)),(∀ s ∈ C,lessB key s.1=true)->posT key (B++C)=posT key B
 | [],[],_=>rfl
 | [],c::C,h=>by
  rw[List.nil_append,show posT key (c::C)=0 from if_neg (less_asymm (h c (List.mem_cons_self ..)))]
  rfl
 | b::B,C,h=>by
  rw[List.cons_append,posT,posT,posT_left B C h]
theorem take_zipP {α β:Type}:∀ (a:List α) (b:List β) (i:Nat),(a.take i).zip (b.take i)=(a.zip b).take i
 | [],b,i=>by simp
 | a::r,[],i=>by simp
 | a::r,b::q,0=>by simp
 | a::r,b::q,i+1=>by simp[take_zipP r q i]
theorem drop_zipP {α β:Type}:∀ (a:List α) (b:List β) (i:Nat),(a.drop i).zip (b.drop i)=(a.zip b).drop i
 | [],b,i=>by simp
 | a::r,[],i=>by simp
 | a::r,b::q,0=>by simp
 | a::r,b::q,i+1=>by simp[drop_zipP r q i]
theorem htOf_out {hs:List Int} (hne:hs≠[]) (h:0<=T.htOf hs):∀ x ∈ hs,x=T.htOf hs - 1∧0<=x:=by
 cases hs with
 | nil=>exact absurd rfl hne
 | cons a r =>
  have hu:T.htOf (a::r)=if a<0 then -1 else if r.all (fun x=>x == a) then a+1 else -1:=rfl
  rw[hu] at h ⊢
  by_cases h1:a<0
  ·rw[if_pos h1] at h;omega
  ·rw[if_neg h1] at h ⊢
   by_cases h2:r.all (fun x=>x == a)=true
   ·rw[if_pos h2] at h ⊢
    intro x hx
    rcases List.mem_cons.1 hx with rfl | hx
    ·omega
    ·have:=List.all_eq_true.1 h2 x hx
     simp at this
     omega
   ·rw[if_neg h2] at h;omega
theorem htOf_mk {hs:List Int} {h:Int} (hne:hs≠[]) (h0:0<=h) (ha:∀ x ∈ hs,x=h):T.htOf hs=h+1:=by
 cases hs with
 | nil=>exact absurd rfl hne
 | cons a r =>
  have e:=ha a (List.mem_cons_self ..)
  subst e
  show (if a<0 then -1 else if r.all (fun x=>x == a) then a+1 else -1)=_
  rw[if_neg (by omega),if_pos]
  rw[List.all_eq_true]
  intro x hx
  simpa using ha x (List.mem_cons_of_mem _ hx)
theorem ht_kids {t:T} (hl:t.leaf=false) (hne:t.kids≠[]) (h:0<=t.ht):∀ k ∈ t.kids,k.ht=t.ht - 1∧0<=k.ht:=by
 rw[T.ht_eq,hl] at h ⊢
 simp only[Bool.false_eq_true,if_false] at h ⊢
 intro k hk
 exact htOf_out (by simpa using hne) h k.ht (List.mem_map.2 ⟨k,hk,rfl⟩)
theorem ht_inner {ys:List T} {p:Int} {a b:List ByteArray} {c:List Int} {h:Int} (hne:ys≠[]) (h0:0<=h) (ha:∀ y ∈ ys,y.ht=h):(⟨false,p,a,b,c,ys⟩:T).ht=h+1:=by
 rw[T.ht_eq]
 simp only[Bool.false_eq_true,if_false]
 exact htOf_mk (by simpa using hne) h0 (fun x hx=>by obtain⟨y,hy,rfl⟩:=List.mem_map.1 hx;exact ha y hy)
theorem posT_lt {key:ByteArray}:∀ (zs:List (ByteArray × ByteArray × Int)),∀ s ∈ zs.take (posT key zs),lessB s.1 key=true
 | [],s,h=>by simp at h
 | a::r,s,h=>by
  unfold posT at h
  split at h
  ·rename_i h1
   rw[List.take_succ_cons] at h
   rcases List.mem_cons.1 h with rfl | h
   ·exact h1
   ·exact posT_lt r s h
  ·simp at h
theorem posT_ge {key:ByteArray}:∀ (zs:List (ByteArray × ByteArray × Int)),SortT zs->∀ s ∈ zs.drop (if thereT key zs=true then posT key zs+1 else posT key zs),lessB key s.1=true
 | [],_,s,h=>by simp at h
 | a::r,hs,s,h=>by
  have h1:=List.pairwise_cons.1 hs
  by_cases hk:lessB a.1 key=true
  ·have hp:posT key (a::r)=posT key r+1:=by rw[posT,if_pos hk]
   have ht:thereT key (a::r)=thereT key r:=by
    unfold thereT
    rw[hp]
    simp only[List.length_cons,Nat.add_lt_add_iff_right,List.getD,List.getElem?_cons_succ]
    exact decide_eq_decide.2 Iff.rfl
   rw[ht,hp] at h
   refine posT_ge r h1.2 s ?_
   split at h<;>(rename_i h9;simp only[h9,if_true,if_false,Bool.false_eq_true] at h ⊢;simpa using h)
  ·have hp:posT key (a::r)=0:=by rw[posT,if_neg hk]
   by_cases he:a.1=key
   ·have ht:thereT key (a::r)=true:=by unfold thereT;rw[hp];simp[List.getD,he]
    rw[ht,hp] at h
    simp at h
    rw[<-he]
    exact h1.1 s h
   ·have ht:¬ thereT key (a::r)=true:=by unfold thereT;rw[hp];simp[List.getD,he]
    rw[if_neg ht,hp] at h
    have hka:lessB key a.1=true:=by
     apply Classical.byContradiction
     intro hc
     exact he (less_tri hk hc)
    rcases List.mem_cons.1 (by simpa using h) with rfl | h
    ·exact hka
    ·exact less_trans hka (h1.1 s h)
theorem nodes_lt:∀ (t:T),t.good false=true->Neat t->t.nodes+1<=t.slots.length:=by
 intro t
 induction t using T.ind with
 | h t ih =>
  intro hg hn
  have hn':=(neat_eq t).1 hn
  have hp:=good_parts hg
  cases hl:t.leaf
  ·have h2:=(good_two hg hl).1
   have hs:∀ (ys:List T),(∀ y ∈ ys,y.nodes+1<=y.slots.length)->(ys.map T.nodes).sum+ys.length<=(ys.map T.slots).flatten.length:=by
    intro ys
    induction ys with
    | nil=>intro _;simp
    | cons y q ihq =>
     intro hy
     have a1:=hy y (List.mem_cons_self ..)
     have a2:=ihq (fun z hz=>hy z (List.mem_cons_of_mem _ hz))
     simp only[List.map_cons,List.sum_cons,List.length_cons,List.flatten_cons,List.length_append]
     omega
   have:=hs t.kids (fun y hy=>ih y hy (good_kid hg hy) (hn'.2.2 y hy))
   rw[T.nodes_eq,T.slots_eq,hl]
   simp only[Bool.false_eq_true,if_false,List.nil_append]
   omega
  ·obtain⟨e1,e2,_⟩:=hp.2.1 hl
   rw[nodes_leaf (hn'.1 hl),T.slots_eq,hl,hn'.1 hl]
   simp only[if_true,List.map_nil,List.flatten_nil,List.append_nil,List.length_zip]
   have h3:=hp.1.1
   simp[T.size,hl] at h3
   omega
theorem nodes_root {t:T} (hg:t.good true=true) (hn:Neat t):t.nodes<=t.slots.length+1:=by
 have hn':=(neat_eq t).1 hn
 cases hl:t.leaf
 ·have hg2:t.good false=true:=by
   rw[T.good_eq] at hg ⊢
   simpa[hl] using hg
  have:=nodes_lt t hg2 hn
  omega
 ·rw[nodes_leaf (hn'.1 hl)]
  omega
theorem grK_all {ts:List TN} {f:Nat} {Φ:T->Prop} {p:Int} {keys:List ByteArray} (hf:∀ nx met t nx' met',gr ts f nx met=some (t,nx',met')->Φ t):∀ (ks:List Int) (acc:List T) (nx:Nat) (met:Int->Bool) (ys:List T) (nx':Nat) (met':Int->Bool),grK p keys (gr ts f) ks acc nx met=some (ys,nx',met')->(∀ z ∈ acc,Φ z)->∀ z ∈ ys,Φ z
 | [],acc,nx,met,ys,nx',met',h,ha=>by
  simp[grK] at h
  obtain⟨rfl,rfl,rfl⟩:=h
  exact ha
 | k::ks,acc,nx,met,ys,nx',met',h,ha=>by
  unfold grK at h
  split at h
  ·rename_i hk
   split at h
   ·cases h
   ·rename_i t nx1 m1 hone
    split at h
    ·exact grK_all hf ks (acc++[t]) nx1 m1 ys nx' met' h (fun z hz=>by
      rcases List.mem_append.1 hz with hz | hz
      ·exact ha z hz
      ·simp at hz;subst hz;exact hf _ _ _ _ _ hone)
    ·cases h
  ·cases h
theorem gr_neat (ts:List TN):∀ (f nx:Nat) (met:Int->Bool) (t:T) (nx':Nat) (met':Int->Bool),gr ts f nx met=some (t,nx',met')->(∃ r,t.good r=true)->Neat t
 | 0,nx,met,t,nx',met',h,_=>by simp[gr] at h
 | f+1,nx,met,t,nx',met',h,hg=>by
  unfold gr at h
  split at h
  ·cases h
  ·split at h
   ·cases h
   ·split at h
    ·split at h
     ·cases h
     ·split at h
      ·cases h
      ·simp only[Option.some.injEq,Prod.mk.injEq] at h
       obtain⟨rfl,_,_⟩:=h
       rw[neat_eq]
       exact⟨fun _=>rfl,(fun e=>by cases e),(fun z hz=>by cases hz)⟩
    ·split at h
     ·cases h
     ·split at h
      ·cases h
      ·rename_i ys nx1 m1 hgk
       simp only[Option.some.injEq,Prod.mk.injEq] at h
       obtain⟨rfl,_,_⟩:=h
       obtain⟨r,hg⟩:=hg
       have h2:=good_two hg rfl
       rw[neat_eq]
       refine⟨(fun e=>by cases e),fun _=>⟨rfl,rfl,rfl,fun e=>by have:=h2.1;simp only at e this;rw[e] at this;simp at this⟩,?_⟩
       have:=grK_all (Φ:=fun z=>(∃ r,z.good r=true)->Neat z) (fun nx met t nx' met' h hg=>gr_neat ts f nx met t nx' met' h hg) _ _ _ _ _ _ _ hgk (fun z hz=>by cases hz)
       exact fun z hz=>this z hz ⟨false,good_kid hg hz⟩
end Go.Proofs.YtbfggcekifaldaaGreat
