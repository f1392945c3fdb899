import Derived.Test.YtbfggcekifaldaaGreatTks
import Derived.Test.YtbfggcekifaldaaGreatHTgg
import Derived.Test.YtbfggcekifaldaaGreatHTvl
import Derived.Test.YtbfggcekifaldaaGreatHTwq
import Derived.Test.YtbfggcekifaldaaGreatHTpx
namespace Go.Proofs.YtbfggcekifaldaaGreat
open Go.RowKit
set_option linter.unusedVariables false
set_option linter.unusedSimpArgs false
set_option maxRecDepth 100000
theorem fore_soft {t:T} {r:Bool} (hg:t.good r=true) (hs:Shape t) {k:Nat} (hk:k<=t.size):Soft (t.fore k) k k:=by
 have hp:=good_parts hg
 have hs':=(shape_eq t).1 hs
 refine⟨rfl,?_,fun hl=>?_,fun z hz=>⟨hp.2.2 z (List.mem_of_mem_take hz),hs'.2 z (List.mem_of_mem_take hz)⟩⟩
 ·cases hl:t.leaf<;>simp[T.size,T.fore,hl] at hk ⊢<;>omega
 ·have hl':t.leaf=true:=hl
  obtain⟨e1,e2,e3⟩:=hp.2.1 hl'
  refine⟨by simp[T.fore,e1],by simp[T.fore,e2],fun x hx=>?_,by simp[T.fore,hs'.1 hl']⟩
  have hx':x ∈ (t.vals.zip t.over).take k:=by rw[<-take_zipP];exact hx
  exact stand_soft (e3 x (List.mem_of_mem_take hx'))
theorem rest_soft {t:T} {r:Bool} (hg:t.good r=true) (hs:Shape t) {k:Nat} (hk:k<=t.size):Soft (t.rest k) (t.size - k) (t.size - k):=by
 have hp:=good_parts hg
 have hs':=(shape_eq t).1 hs
 refine⟨rfl,?_,fun hl=>?_,fun z hz=>⟨hp.2.2 z (List.mem_of_mem_drop hz),hs'.2 z (List.mem_of_mem_drop hz)⟩⟩
 ·cases hl:t.leaf<;>simp[T.size,T.rest,hl] at hk ⊢
 ·have hl':t.leaf=true:=hl
  obtain⟨e1,e2,e3⟩:=hp.2.1 hl'
  refine⟨by simp[T.rest,e1],by simp[T.rest,e2],fun x hx=>?_,by simp[T.rest,hs'.1 hl']⟩
  have hx':x ∈ (t.vals.zip t.over).drop k:=by rw[<-drop_zipP];exact hx
  exact stand_soft (e3 x (List.mem_of_mem_drop hx'))
theorem glue_soft {a b:T} {i j:Nat} (ha:Soft a i i) (hb:Soft b j j) (hl:a.leaf=b.leaf):Soft (glueT a b) (i+j) (i+j):=by
 refine⟨rfl,?_,fun h=>?_,fun z hz=>?_⟩
 ·have h1:=ha.size
  have h2:=hb.size
  cases hc:b.leaf<;>rw[hc] at hl<;>simp[T.size,glueT,hl,hc] at h1 h2 ⊢<;>omega
 ·have hla:a.leaf=true:=h
  have hlb:b.leaf=true:=by rw[<-hl];exact hla
  obtain⟨a1,a2,a3,a4⟩:=ha.leaf hla
  obtain⟨b1,b2,b3,b4⟩:=hb.leaf hlb
  refine⟨by simp[glueT,a1,b1],by simp[glueT,a2,b2],fun x hx=>?_,by simp[glueT,a4,b4]⟩
  have hx':x ∈ a.vals.zip a.over++b.vals.zip b.over:=by rw[<-List.zip_append (by omega)];exact hx
  rcases List.mem_append.1 hx' with h | h
  ·exact a3 x h
  ·exact b3 x h
 ·rcases List.mem_append.1 (show z ∈ a.kids++b.kids from hz) with h | h
  ·exact ha.kids z h
  ·exact hb.kids z h
theorem fore_all (t:T) (hn:t.leaf=true->t.vals.length=t.keys.length∧t.over.length=t.keys.length∧t.kids=[]) (hi:t.leaf=false->t.keys=[]∧t.vals=[]∧t.over=[]):t.fore t.size=⟨t.leaf,0,t.keys,t.vals,t.over,t.kids⟩:=by
 unfold T.fore
 cases hl:t.leaf
 ·obtain⟨e1,e2,e3⟩:=hi hl
  simp[T.size,hl,e1,e2,e3]
 ·obtain⟨e1,e2,e3⟩:=hn hl
  simp only[T.size,hl,if_true,e3,List.take_nil]
  rw[List.take_length,<-e1,List.take_length,e1,<-e2,List.take_length]
theorem glue_fore (t b:T) (hn:t.leaf=true->t.vals.length=t.keys.length∧t.over.length=t.keys.length∧t.kids=[]) (hi:t.leaf=false->t.keys=[]∧t.vals=[]∧t.over=[]):glueT t b=glueT (t.fore t.size) b∧glueT b t=glueT b (t.fore t.size):=by
 rw[fore_all t hn hi]
 exact⟨rfl,rfl⟩
theorem fore_neat {t:T} (h:Neat t) {k:Nat} (hk:0<k):Neat (t.fore k):=by
 have h':=(neat_eq t).1 h
 rw[neat_eq]
 refine⟨fun hl=>by simp[T.fore,h'.1 hl],fun hl=>?_,fun z hz=>h'.2.2 z (List.mem_of_mem_take hz)⟩
 obtain⟨e1,e2,e3,e4⟩:=h'.2.1 hl
 refine⟨by simp[T.fore,e1],by simp[T.fore,e2],by simp[T.fore,e3],fun e=>e4 ?_⟩
 have h9:(t.kids.take k)=[]:=e
 rw[List.take_eq_nil_iff] at h9
 rcases h9 with h9 | h9
 ·omega
 ·exact h9
theorem rest_neat {t:T} (h:Neat t) {k:Nat} (hk:k<t.size):Neat (t.rest k):=by
 have h':=(neat_eq t).1 h
 rw[neat_eq]
 refine⟨fun hl=>by simp[T.rest,h'.1 hl],fun hl=>?_,fun z hz=>h'.2.2 z (List.mem_of_mem_drop hz)⟩
 have hl':t.leaf=false:=hl
 obtain⟨e1,e2,e3,e4⟩:=h'.2.1 hl
 refine⟨by simp[T.rest,e1],by simp[T.rest,e2],by simp[T.rest,e3],fun e=>?_⟩
 have h9:(t.kids.drop k)=[]:=e
 rw[List.drop_eq_nil_iff] at h9
 simp[T.size,hl'] at hk
 omega
theorem glue_neat {a b:T} (ha:Neat a) (hb:Neat b) (hl:a.leaf=b.leaf):Neat (glueT a b):=by
 have ha':=(neat_eq a).1 ha
 have hb':=(neat_eq b).1 hb
 rw[neat_eq]
 refine⟨fun h=>?_,fun h=>?_,fun z hz=>?_⟩
 ·have hla:a.leaf=true:=h
  simp[glueT,ha'.1 hla,hb'.1 (hl ▸ hla)]
 ·have hla:a.leaf=false:=h
  obtain⟨a1,a2,a3,a4⟩:=ha'.2.1 hla
  obtain⟨b1,b2,b3,b4⟩:=hb'.2.1 (hl ▸ hla)
  exact⟨by simp[glueT,a1,b1],by simp[glueT,a2,b2],by simp[glueT,a3,b3],by simp[glueT,a4]⟩
 ·rcases List.mem_append.1 (show z ∈ a.kids++b.kids from hz) with h | h
  ·exact ha'.2.2 z h
  ·exact hb'.2.2 z h
theorem fore_ht {t:T} (h:Neat t) (hh:0<=t.ht) {k:Nat} (hk:0<k):(t.fore k).ht=t.ht:=by
 have h':=(neat_eq t).1 h
 cases hl:t.leaf
 ·have hne:=(h'.2.1 hl).2.2.2
  have hks:=ht_kids hl hne hh
  obtain⟨a,q,ha⟩:=List.exists_cons_of_ne_nil hne
  have h0:=hks a (by rw[ha];exact List.mem_cons_self ..)
  have:=ht_inner (p:=0) (a:=t.keys.take k) (b:=t.vals.take k) (c:=t.over.take k) (ys:=t.kids.take k) (h:=t.ht - 1) (fun e=>by
   rw[List.take_eq_nil_iff] at e
   rcases e with e | e
   ·omega
   ·exact hne e) (by omega) (fun y hy=>(hks y (List.mem_of_mem_take hy)).1)
  unfold T.fore
  rw[hl,this]
  omega
 ·rw[T.ht_eq,T.ht_eq t,hl]
  simp[T.fore,hl]
theorem rest_ht {t:T} (h:Neat t) (hh:0<=t.ht) {k:Nat} (hk:k<t.size):(t.rest k).ht=t.ht:=by
 have h':=(neat_eq t).1 h
 cases hl:t.leaf
 ·have hne:=(h'.2.1 hl).2.2.2
  have hks:=ht_kids hl hne hh
  obtain⟨a,q,ha⟩:=List.exists_cons_of_ne_nil hne
  have h0:=hks a (by rw[ha];exact List.mem_cons_self ..)
  simp[T.size,hl] at hk
  have:=ht_inner (p:=0) (a:=t.keys.drop k) (b:=t.vals.drop k) (c:=t.over.drop k) (ys:=t.kids.drop k) (h:=t.ht - 1) (fun e=>by rw[List.drop_eq_nil_iff] at e;omega) (by omega) (fun y hy=>(hks y (List.mem_of_mem_drop hy)).1)
  unfold T.rest
  rw[hl,this]
  omega
 ·rw[T.ht_eq,T.ht_eq t,hl]
  simp[T.rest,hl]
theorem glue_ht {a b:T} (ha:Neat a) (hb:Neat b) (hh:0<=a.ht) (he:b.ht=a.ht) (hl:a.leaf=b.leaf):(glueT a b).ht=a.ht:=by
 have ha':=(neat_eq a).1 ha
 have hb':=(neat_eq b).1 hb
 cases hla:a.leaf
 ·have na:=(ha'.2.1 hla).2.2.2
  have nb:=(hb'.2.1 (hl ▸ hla)).2.2.2
  have ka:=ht_kids hla na hh
  have kb:=ht_kids (hl ▸ hla) nb (by omega)
  obtain⟨x,q,hx⟩:=List.exists_cons_of_ne_nil na
  have h0:=ka x (by rw[hx];exact List.mem_cons_self ..)
  have:=ht_inner (p:=0) (a:=a.keys++b.keys) (b:=a.vals++b.vals) (c:=a.over++b.over) (ys:=a.kids++b.kids) (h:=a.ht - 1) (by simp[na]) (by omega) (fun y hy=>by
   rcases List.mem_append.1 hy with h | h
   ·exact (ka y h).1
   ·have:=(kb y h).1;omega)
  unfold glueT
  rw[hla,this]
  omega
 ·rw[T.ht_eq,T.ht_eq a,hla]
  simp[glueT,hla]
theorem leaf_ht {t:T} (h:Neat t) (hh:0<=t.ht):t.leaf=true ↔ t.ht=0:=by
 cases hl:t.leaf
 ·have hne:=(((neat_eq t).1 h).2.1 hl).2.2.2
  obtain⟨x,q,hx⟩:=List.exists_cons_of_ne_nil hne
  have:=ht_kids hl hne hh x (by rw[hx];exact List.mem_cons_self ..)
  simp
  omega
 ·rw[T.ht_eq,hl]
  simp
theorem part_slots {t:T} (h:Neat t) (hl:t.leaf=true->t.vals.length=t.keys.length∧t.over.length=t.keys.length) (k:Nat):(t.fore k).slots++(t.rest k).slots=t.slots:=by
 have h':=(neat_eq t).1 h
 cases hc:t.leaf
 ·simp only[T.slots_eq,T.fore,T.rest,hc,Bool.false_eq_true,if_false,List.nil_append]
  rw[<-List.flatten_append,<-List.map_append,List.take_append_drop]
 ·simp only[T.slots_eq,T.fore,T.rest,hc,if_true,h'.1 hc,List.take_nil,List.drop_nil,List.map_nil,List.flatten_nil,List.append_nil]
  rw[take_zipP,take_zipP,drop_zipP,drop_zipP,List.take_append_drop]
theorem glue_slots {a b:T} (ha:Neat a) (hb:Neat b) (hl:a.leaf=b.leaf) (la:a.leaf=true->a.vals.length=a.keys.length∧a.over.length=a.keys.length):(glueT a b).slots=a.slots++b.slots:=by
 have ha':=(neat_eq a).1 ha
 have hb':=(neat_eq b).1 hb
 cases hc:a.leaf
 ·rw[T.slots_eq,T.slots_eq a,T.slots_eq b,<-hl,hc]
  simp[glueT,hc]
 ·obtain⟨e1,e2⟩:=la hc
  rw[T.slots_eq,T.slots_eq a,T.slots_eq b,<-hl,hc,ha'.1 hc,hb'.1 (hl ▸ hc)]
  simp only[glueT,hc,if_true,ha'.1 hc,hb'.1 (hl ▸ hc),List.append_nil,List.map_nil,List.flatten_nil]
  rw[List.zip_append (by omega),List.zip_append (by simp;omega)]
structure Fit (t:T) (h:Int):Prop where
 good:t.good false=true
 neat:Neat t
 ht:t.ht=h
structure Few (t:T) (h:Int):Prop where
 soft:Soft t 1 1
 neat:Neat t
 ht:t.ht=h
theorem Fit.lens {t:T} {h:Int} (f:Fit t h):(t.leaf=true->t.vals.length=t.keys.length∧t.over.length=t.keys.length∧t.kids=[])∧(t.leaf=false->t.keys=[]∧t.vals=[]∧t.over=[]):=by
 have hn:=(neat_eq t).1 f.neat
 have hp:=good_parts f.good
 exact⟨fun hl=>⟨(hp.2.1 hl).1,(hp.2.1 hl).2.1,hn.1 hl⟩,fun hl=>⟨(hn.2.1 hl).1,(hn.2.1 hl).2.1,(hn.2.1 hl).2.2.1⟩⟩
theorem Few.lens {t:T} {h:Int} (f:Few t h):(t.leaf=true->t.vals.length=t.keys.length∧t.over.length=t.keys.length∧t.kids=[])∧(t.leaf=false->t.keys=[]∧t.vals=[]∧t.over=[]):=by
 have hn:=(neat_eq t).1 f.neat
 exact⟨fun hl=>⟨(f.soft.leaf hl).1,(f.soft.leaf hl).2.1,hn.1 hl⟩,fun hl=>⟨(hn.2.1 hl).1,(hn.2.1 hl).2.1,(hn.2.1 hl).2.2.1⟩⟩
theorem Fit.size {t:T} {h:Int} (f:Fit t h):2<=t.size∧t.size<=4:=by simpa using (good_parts f.good).1
theorem kinds {a b:T} {h:Int} (h0:0<=h) (na:Neat a) (nb:Neat b) (ea:a.ht=h) (eb:b.ht=h):a.leaf=b.leaf:=by
 have h1:=leaf_ht na (by omega)
 have h2:=leaf_ht nb (by omega)
 cases hc:a.leaf<;>cases hd:b.leaf<;>simp[hc,hd] at h1 h2 ⊢<;>omega
theorem soft_fit {t:T} {h:Int} {k:Nat} (hs:Soft t k k) (hk:2<=k∧k<=4) (hn:Neat t) (hh:t.ht=h):Fit t h :=
 ⟨hs.good false (by have:=hs.size;simp;omega) (by have:=hs.size;omega),hn,hh⟩
def giveR (x y:T):List T:=[x.fore (x.size - 1),glueT (x.rest (x.size - 1)) y]
def giveL (x y:T):List T:=[glueT x (y.fore 1),y.rest 1]
theorem giveR_fit {x y:T} {h:Int} (h0:0<=h) (fx:Fit x h) (fy:Few y h) (hs:2<x.size):(∀ z ∈ giveR x y,Fit z h)∧((giveR x y).map T.slots).flatten=x.slots++y.slots:=by
 have sz:=fx.size
 have f1:=fore_soft fx.good fx.neat.shape (k:=x.size - 1) (by omega)
 have f2:=rest_soft fx.good fx.neat.shape (k:=x.size - 1) (by omega)
 rw[show x.size - (x.size - 1)=1 by omega] at f2
 have n1:=fore_neat fx.neat (k:=x.size - 1) (by omega)
 have n2:=rest_neat fx.neat (k:=x.size - 1) (by omega)
 have t1:=fore_ht fx.neat (by rw[fx.ht];exact h0) (k:=x.size - 1) (by omega)
 have t2:=rest_ht fx.neat (by rw[fx.ht];exact h0) (k:=x.size - 1) (by omega)
 rw[fx.ht] at t1 t2
 have hk:=kinds h0 n2 fy.neat t2 fy.ht
 have hl2:(x.rest (x.size - 1)).leaf=true->(x.rest (x.size - 1)).vals.length=(x.rest (x.size - 1)).keys.length∧(x.rest (x.size - 1)).over.length=(x.rest (x.size - 1)).keys.length:=fun hl=>⟨(f2.leaf hl).1,(f2.leaf hl).2.1⟩
 refine⟨fun z hz=>?_,?_⟩
 ·simp only[giveR,List.mem_cons,List.not_mem_nil,or_false] at hz
  rcases hz with rfl | rfl
  ·exact soft_fit f1 (by omega) n1 t1
  ·exact soft_fit (glue_soft f2 fy.soft hk) (by omega) (glue_neat n2 fy.neat hk) (by rw[glue_ht n2 fy.neat (by omega) (by rw[fy.ht,t2]) hk,t2])
 ·simp only[giveR,List.map_cons,List.map_nil,List.flatten_cons,List.flatten_nil,List.append_nil]
  rw[glue_slots n2 fy.neat hk hl2,<-List.append_assoc,part_slots fx.neat (fun hl=>⟨(fx.lens.1 hl).1,(fx.lens.1 hl).2.1⟩)]
theorem giveL_fit {x y:T} {h:Int} (h0:0<=h) (fx:Few x h) (fy:Fit y h) (hs:2<y.size):(∀ z ∈ giveL x y,Fit z h)∧((giveL x y).map T.slots).flatten=x.slots++y.slots:=by
 have sz:=fy.size
 have f1:=fore_soft fy.good fy.neat.shape (k:=1) (by omega)
 have f2:=rest_soft fy.good fy.neat.shape (k:=1) (by omega)
 have n1:=fore_neat fy.neat (k:=1) (by omega)
 have n2:=rest_neat fy.neat (k:=1) (by omega)
 have t1:=fore_ht fy.neat (by rw[fy.ht];exact h0) (k:=1) (by omega)
 have t2:=rest_ht fy.neat (by rw[fy.ht];exact h0) (k:=1) (by omega)
 rw[fy.ht] at t1 t2
 have hk:=kinds h0 fx.neat n1 fx.ht t1
 refine⟨fun z hz=>?_,?_⟩
 ·simp only[giveL,List.mem_cons,List.not_mem_nil,or_false] at hz
  rcases hz with rfl | rfl
  ·exact soft_fit (glue_soft fx.soft f1 hk) (by omega) (glue_neat fx.neat n1 hk) (by rw[glue_ht fx.neat n1 (by rw[fx.ht];exact h0) (by rw[fx.ht,t1]) hk,fx.ht])
  ·exact soft_fit f2 (by omega) n2 t2
 ·simp only[giveL,List.map_cons,List.map_nil,List.flatten_cons,List.flatten_nil,List.append_nil]
  rw[glue_slots fx.neat n1 hk (fun hl=>⟨(fx.lens.1 hl).1,(fx.lens.1 hl).2.1⟩),List.append_assoc,part_slots fy.neat (fun hl=>⟨(fy.lens.1 hl).1,(fy.lens.1 hl).2.1⟩)]
theorem one_fit {x y:T} {h:Int} (h0:0<=h) (hxy:(Few x h∧Fit y h∧y.size=2)∨(Fit x h∧x.size=2∧Few y h)):Fit (glueT x y) h∧(glueT x y).slots=x.slots++y.slots:=by
 rcases hxy with ⟨fx,fy,hs⟩ | ⟨fx,hs,fy⟩
 ·have hk:=kinds h0 fx.neat fy.neat fx.ht fy.ht
  have f1:=fore_soft fy.good fy.neat.shape (k:=y.size) (Nat.le_refl _)
  rw[hs] at f1
  have e:=(glue_fore y x fy.lens.1 fy.lens.2).2
  have hS:Soft (glueT x y) (1+2) (1+2):=by rw[e,hs];exact glue_soft fx.soft f1 hk
  exact⟨soft_fit hS (by omega) (glue_neat fx.neat fy.neat hk) (by rw[glue_ht fx.neat fy.neat (by rw[fx.ht];exact h0) (by rw[fx.ht,fy.ht]) hk,fx.ht]),glue_slots fx.neat fy.neat hk (fun hl=>⟨(fx.lens.1 hl).1,(fx.lens.1 hl).2.1⟩)⟩
 ·have hk:=kinds h0 fx.neat fy.neat fx.ht fy.ht
  have f1:=fore_soft fx.good fx.neat.shape (k:=x.size) (Nat.le_refl _)
  rw[hs] at f1
  have e:=(glue_fore x y fx.lens.1 fx.lens.2).1
  have hS:Soft (glueT x y) (2+1) (2+1):=by rw[e,hs];exact glue_soft f1 fy.soft hk
  exact⟨soft_fit hS (by omega) (glue_neat fx.neat fy.neat hk) (by rw[glue_ht fx.neat fy.neat (by rw[fx.ht];exact h0) (by rw[fx.ht,fy.ht]) hk,fx.ht]),glue_slots fx.neat fy.neat hk (fun hl=>⟨(fx.lens.1 hl).1,(fx.lens.1 hl).2.1⟩)⟩
def repl2 (ys:List T) (i:Nat) (f:T->T->List T):List T:=ys.take i++f (ys.getD i leafT) (ys.getD (i+1) leafT)++ys.drop (i+2)
def mendT (ys:List T) (m:Nat):List T :=
 if 0<m∧2<(ys.getD (m - 1) leafT).size then repl2 ys (m - 1) giveR
 else if m+1<ys.length∧2<(ys.getD (m+1) leafT).size then repl2 ys m giveL
 else repl2 ys (m - 1) (fun x y=>[glueT x y])
theorem split2 {ys:List T} {i:Nat} {x y:T} (hx:ys[i]?=some x) (hy:ys[i+1]?=some y):ys=ys.take i++x::y::ys.drop (i+2):=by
 obtain⟨h1,e1⟩:=List.getElem?_eq_some_iff.1 hx
 obtain⟨h2,e2⟩:=List.getElem?_eq_some_iff.1 hy
 have a1:x::ys.drop (i+1)=ys.drop i:=by rw[<-e1,List.getElem_cons_drop]
 have a2:y::ys.drop (i+2)=ys.drop (i+1):=by rw[<-e2,List.getElem_cons_drop]
 rw[a2,a1,List.take_append_drop]
theorem repl2_fit {ys:List T} {i:Nat} {x y:T} {f:T->T->List T} {h:Int} (hx:ys[i]?=some x) (hy:ys[i+1]?=some y) (hf:(∀ z ∈ f x y,Fit z h)∧((f x y).map T.slots).flatten=x.slots++y.slots) (hr:∀ (j:Nat) z,j≠i->j≠i+1->ys[j]?=some z->Fit z h):(∀ z ∈ repl2 ys i f,Fit z h)∧((repl2 ys i f).map T.slots).flatten=(ys.map T.slots).flatten∧(repl2 ys i f).length+2=ys.length+(f x y).length:=by
 have e:repl2 ys i f=ys.take i++f x y++ys.drop (i+2):=by unfold repl2;simp[List.getD,hx,hy]
 have hsp:=split2 hx hy
 refine⟨fun z hz=>?_,?_,?_⟩
 ·rw[e] at hz
  rcases List.mem_append.1 hz with hz | hz
  ·rcases List.mem_append.1 hz with hz | hz
   ·obtain⟨j,hj,hje⟩:=List.mem_iff_getElem.1 hz
    rw[List.length_take] at hj
    exact hr j z (by omega) (by omega) (by rw[List.getElem_take] at hje;rw[<-hje];exact List.getElem?_eq_getElem (by omega))
   ·exact hf.1 z hz
  ·obtain⟨j,hj,hje⟩:=List.mem_iff_getElem.1 hz
   rw[List.length_drop] at hj
   exact hr (i+2+j) z (by omega) (by omega) (by rw[List.getElem_drop] at hje;rw[<-hje];exact List.getElem?_eq_getElem (by omega))
 ·rw[e]
  conv=>rhs;rw[hsp]
  simp only[List.map_append,List.flatten_append,List.map_cons,List.flatten_cons,hf.2,List.append_assoc]
 ·rw[e]
  have:=congrArg List.length hsp
  simp only[List.length_append,List.length_cons] at this ⊢
  omega
theorem mend_fit {ys:List T} {m:Nat} {d:T} {h:Int} (h0:0<=h) (h2:2<=ys.length) (hd:ys[m]?=some d) (fd:Few d h) (hr:∀ (j:Nat) z,j≠m->ys[j]?=some z->Fit z h):(∀ z ∈ mendT ys m,Fit z h)∧((mendT ys m).map T.slots).flatten=(ys.map T.slots).flatten∧ys.length<=(mendT ys m).length+1∧(mendT ys m).length<=ys.length:=by
 have hm:=(List.getElem?_eq_some_iff.1 hd).1
 unfold mendT
 by_cases c1:0<m∧2<(ys.getD (m - 1) leafT).size
 ·rw[if_pos c1]
  obtain⟨x,hx⟩:∃ x,ys[m - 1]?=some x:=⟨_,List.getElem?_eq_getElem (by omega)⟩
  have hxe:ys.getD (m - 1) leafT=x:=by simp[List.getD,hx]
  rw[hxe] at c1
  have hd':ys[m - 1+1]?=some d:=by rw[show m - 1+1=m by omega];exact hd
  obtain⟨r1,r2,r3⟩:=repl2_fit (f:=giveR) hx hd' (giveR_fit h0 (hr (m - 1) x (by omega) hx) fd c1.2) (fun j z j1 j2 hz=>hr j z (by omega) hz)
  simp only[giveR,List.length_cons,List.length_nil] at r3
  exact⟨r1,r2,by omega,by omega⟩
 ·rw[if_neg c1]
  by_cases c2:m+1<ys.length∧2<(ys.getD (m+1) leafT).size
  ·rw[if_pos c2]
   obtain⟨y,hy⟩:∃ y,ys[m+1]?=some y:=⟨_,List.getElem?_eq_getElem c2.1⟩
   have hye:ys.getD (m+1) leafT=y:=by simp[List.getD,hy]
   rw[hye] at c2
   obtain⟨r1,r2,r3⟩:=repl2_fit (f:=giveL) hd hy (giveL_fit h0 fd (hr (m+1) y (by omega) hy) c2.2) (fun j z j1 j2 hz=>hr j z j1 hz)
   simp only[giveL,List.length_cons,List.length_nil] at r3
   exact⟨r1,r2,by omega,by omega⟩
  ·rw[if_neg c2]
   by_cases c3:0<m
   ·obtain⟨x,hx⟩:∃ x,ys[m - 1]?=some x:=⟨_,List.getElem?_eq_getElem (by omega)⟩
    have hxe:ys.getD (m - 1) leafT=x:=by simp[List.getD,hx]
    have hd':ys[m - 1+1]?=some d:=by rw[show m - 1+1=m by omega];exact hd
    have fx:=hr (m - 1) x (by omega) hx
    have hs:x.size=2:=by have:=fx.size;rw[hxe] at c1;omega
    obtain⟨o1,o2⟩:=one_fit h0 (.inr ⟨fx,hs,fd⟩)
    obtain⟨r1,r2,r3⟩:=repl2_fit (f:=fun x y=>[glueT x y]) hx hd' ⟨fun z hz=>by simp at hz;subst hz;exact o1,by simp[o2]⟩ (fun j z j1 j2 hz=>hr j z (by omega) hz)
    simp only[List.length_cons,List.length_nil] at r3
    exact⟨r1,r2,by omega,by omega⟩
   ·obtain rfl:m=0:=by omega
    obtain⟨y,hy⟩:∃ y,ys[0+1]?=some y:=⟨_,List.getElem?_eq_getElem (by omega)⟩
    have hye:ys.getD (0+1) leafT=y:=by simp only[List.getD,hy,Option.getD_some]
    have fy:=hr (0+1) y (by omega) hy
    have hs:y.size=2:=by have:=fy.size;rw[hye] at c2;omega
    obtain⟨o1,o2⟩:=one_fit h0 (.inl ⟨fd,fy,hs⟩)
    obtain⟨r1,r2,r3⟩:=repl2_fit (i:=0) (f:=fun x y=>[glueT x y]) hd hy ⟨fun z hz=>by simp at hz;subst hz;exact o1,by simp[o2]⟩ (fun j z j1 j2 hz=>hr j z j1 hz)
    simp only[List.length_cons,List.length_nil] at r3
    rw[show 0 - 1=0 from rfl]
    exact⟨r1,r2,by omega,by omega⟩
def remZ (key:ByteArray) (zs:List (ByteArray × ByteArray × Int)):List (ByteArray × ByteArray × Int):=zs.take (posT key zs)++zs.drop (posT key zs+1)
def delK (m:Nat) (y:List T) (d:T):List T:=if d.size<2 then mendT (y.set m d) m else y.set m d
def delT (key:ByteArray):T->T
 | ⟨l,p,k,v,o,y⟩=>if l then leafZ (remZ key (k.zip (v.zip o))) else ⟨false,0,[],[],[],delK (towN key y) y ((y.map (delT key)).getD (towN key y) leafT)⟩
theorem delT_leaf {key:ByteArray} {t:T} (h:t.leaf=true):delT key t=leafZ (remZ key (t.keys.zip (t.vals.zip t.over))):=by
 obtain⟨l,p,k,v,o,y⟩:=t
 simp at h
 rw[delT];simp[h]
theorem delT_inner {key:ByteArray} {t k:T} (h:t.leaf=false) (hk:t.kids[towN key t.kids]?=some k):delT key t=⟨false,0,[],[],[],delK (towN key t.kids) t.kids (delT key k)⟩:=by
 obtain⟨l,p,ks,v,o,y⟩:=t
 simp at h hk
 rw[delT]
 have:(y.map (delT key)).getD (towN key y) leafT=delT key k:=by simp[List.getD,hk]
 simp only[h,Bool.false_eq_true,if_false,this]
theorem posT_there {key:ByteArray}:∀ (zs:List (ByteArray × ByteArray × Int)),SortT zs->(∃ s ∈ zs,s.1=key)->posT key zs<zs.length∧(zs.getD (posT key zs) (ByteArray.empty,ByteArray.empty,0)).1=key
 | [],_,⟨s,h,_⟩=>by simp at h
 | a::r,hs,⟨s,h,e⟩=>by
  have h1:=List.pairwise_cons.1 hs
  rcases List.mem_cons.1 h with rfl | h
  ·have hn:¬ lessB s.1 key=true:=by rw[e];exact less_irrefl _
   rw[posT,if_neg hn]
   exact⟨by simp,by simpa[List.getD] using e⟩
  ·have hl:lessB a.1 key=true:=by rw[<-e];exact h1.1 s h
   have ih:=posT_there r h1.2 ⟨s,h,e⟩
   rw[posT,if_pos hl]
   exact⟨by simp only[List.length_cons];omega,by simpa[List.getD] using ih.2⟩
theorem remZ_mid {key:ByteArray} {A B C:List (ByteArray × ByteArray × Int)} (hA:∀ s ∈ A,lessB s.1 key=true) (hC:∀ s ∈ C,lessB key s.1=true) (hB:posT key B<B.length):remZ key (A++B++C)=A++remZ key B++C:=by
 have hp:posT key (A++B++C)=A.length+posT key B:=by rw[List.append_assoc,posT_append A _ hA,posT_left B C hC]
 unfold remZ
 rw[hp]
 have e1:(A++B++C).take (A.length+posT key B)=A++B.take (posT key B):=by
  rw[List.append_assoc,List.take_length_add_append,List.take_append_of_le_length (by omega)]
 have e2:(A++B++C).drop (A.length+posT key B+1)=B.drop (posT key B+1)++C:=by
  rw[Nat.add_assoc,List.append_assoc,List.drop_length_add_append,List.drop_append_of_le_length (by omega)]
 rw[e1,e2]
 simp
theorem remZ_len {key:ByteArray} {zs:List (ByteArray × ByteArray × Int)} (h:posT key zs<zs.length):(remZ key zs).length+1=zs.length:=by
 unfold remZ
 rw[List.length_append,List.length_take,List.length_drop]
 omega
theorem remZ_mem {key:ByteArray} {zs:List (ByteArray × ByteArray × Int)} {s:ByteArray × ByteArray × Int} (h:s ∈ remZ key zs):s ∈ zs:=by
 unfold remZ at h
 rcases List.mem_append.1 h with h | h
 ·exact List.mem_of_mem_take h
 ·exact List.mem_of_mem_drop h
theorem set_slots {ys:List T} {m:Nat} {k d:T} (hk:ys[m]?=some k):((ys.set m d).map T.slots).flatten=((ys.take m).map T.slots).flatten++d.slots++((ys.drop (m+1)).map T.slots).flatten:=by
 have hm:=(List.getElem?_eq_some_iff.1 hk).1
 rw[List.set_eq_take_append_cons_drop,if_pos hm]
 simp
structure DelIs (key:ByteArray) (t d:T):Prop where
 soft:Soft d (t.size - 1) 4
 neat:0<d.size->Neat d
 ht:0<d.size->d.ht=t.ht
 slots:d.slots=remZ key t.slots
theorem del_is (key:ByteArray):∀ (t:T) (r:Bool),t.good r=true->Neat t->0<=t.ht->SortT t.slots->(∃ s ∈ t.slots,s.1=key)->DelIs key t (delT key t):=by
 intro t
 induction t using T.ind with
 | h t ih =>
  intro r hg hn hh hs hex
  have hn':=(neat_eq t).1 hn
  have hp:=good_parts hg
  cases hl:t.leaf
  ·have h24:=good_two hg hl
   have h0:0<t.kids.length:=by omega
   obtain⟨k,hk,hkm⟩:=tow_kid (key:=key) (ys:=t.kids) h0
   obtain⟨hA,hC,hsk,hfl⟩:=toward_split hl ⟨r,hg⟩ hs (toward_tow (key:=key) h0) hk
   have hkh:=ht_kids hl (hn'.2.1 hl).2.2.2 hh
   have hkg:=good_kid hg hkm
   have hexk:∃ s ∈ k.slots,s.1=key:=by
    obtain⟨s,hm,e⟩:=hex
    rw[hfl] at hm
    rcases List.mem_append.1 hm with hm | hm
    ·rcases List.mem_append.1 hm with hm | hm
     ·have:=hA s hm;rw[e] at this;exact absurd this (less_irrefl _)
     ·exact⟨s,hm,e⟩
    ·have:=hC s hm;rw[e] at this;exact absurd this (less_irrefl _)
   have hd:=ih k hkm false hkg (hn'.2.2 k hkm) (hkh k hkm).2 hsk hexk
   have hks:2<=k.size:=by simpa using (good_parts hkg).1.1
   have hds:0<(delT key k).size:=by have:=hd.soft.size;omega
   have hpos:=posT_there k.slots hsk hexk
   rw[delT_inner hl hk]
   have hm:=(List.getElem?_eq_some_iff.1 hk).1
   have hset:(t.kids.set (towN key t.kids) (delT key k))[towN key t.kids]?=some (delT key k):=by simp[hm]
   have hoth:∀ (j:Nat) z,j≠towN key t.kids->(t.kids.set (towN key t.kids) (delT key k))[j]?=some z->Fit z (t.ht - 1):=fun j z hj hz=>by
    rw[List.getElem?_set_ne (Ne.symm hj)] at hz
    have hzm:=List.mem_of_getElem? hz
    exact⟨good_kid hg hzm,hn'.2.2 z hzm,(hkh z hzm).1⟩
   have hdh:(delT key k).ht=t.ht - 1:=by rw[hd.ht hds];exact (hkh k hkm).1
   have h1:0<=t.ht - 1:=by have:=hkh k hkm;omega
   have hsl:=set_slots (d:=delT key k) hk
   have key9:((t.kids.take (towN key t.kids)).map T.slots).flatten++(delT key k).slots++((t.kids.drop (towN key t.kids+1)).map T.slots).flatten=remZ key t.slots:=by
    rw[hd.slots,hfl,remZ_mid hA hC hpos.1]
   obtain⟨q1,q2,q3,q4⟩:(∀ z ∈ delK (towN key t.kids) t.kids (delT key k),Fit z (t.ht - 1))∧((delK (towN key t.kids) t.kids (delT key k)).map T.slots).flatten=remZ key t.slots∧t.kids.length<=(delK (towN key t.kids) t.kids (delT key k)).length+1∧(delK (towN key t.kids) t.kids (delT key k)).length<=t.kids.length:=by
    unfold delK
    split
    ·rename_i h9
     have hone:(delT key k).size=1:=by omega
     have fd:Few (delT key k) (t.ht - 1):=⟨⟨hd.soft.page,by omega,hd.soft.leaf,hd.soft.kids⟩,hd.neat hds,hdh⟩
     obtain⟨m1,m2,m3,m4⟩:=mend_fit h1 (by rw[List.length_set];omega) hset fd hoth
     rw[List.length_set] at m3 m4
     exact⟨m1,by rw[m2,hsl,key9],m3,m4⟩
    ·rename_i h9
     have fd:Fit (delT key k) (t.ht - 1):=⟨hd.soft.good false (by simp;omega) hd.soft.size.2,hd.neat hds,hdh⟩
     refine⟨fun z hz=>?_,by rw[hsl,key9],by rw[List.length_set];omega,by rw[List.length_set];exact Nat.le_refl _⟩
     obtain⟨j,hj,e⟩:=List.mem_iff_getElem.1 hz
     by_cases hjm:j=towN key t.kids
     ·subst hjm
      have:z=delT key k:=by rw[<-e];simp
      rw[this];exact fd
     ·exact hoth j z hjm (by rw[<-e];exact List.getElem?_eq_getElem hj)
   have htsz:t.size=t.kids.length:=by simp[T.size,hl]
   have hne:delK (towN key t.kids) t.kids (delT key k)≠[]:=fun e=>by rw[e] at q3;simp at q3;omega
   refine⟨⟨rfl,?_,fun e=>by simp at e,fun z hz=>⟨(q1 z hz).good,(q1 z hz).neat.shape⟩⟩,fun _=>?_,fun _=>?_,?_⟩
   ·rw[htsz]
    show t.kids.length - 1<=(delK (towN key t.kids) t.kids (delT key k)).length∧(delK (towN key t.kids) t.kids (delT key k)).length<=4
    omega
   ·rw[neat_eq]
    exact⟨fun e=>by simp at e,fun _=>⟨rfl,rfl,rfl,hne⟩,fun z hz=>(q1 z hz).neat⟩
   ·rw[ht_inner hne h1 (fun y hy=>(q1 y hy).ht)]
    omega
   ·rw[T.slots_eq]
    simp only[Bool.false_eq_true,if_false,List.nil_append]
    exact q2
  ·obtain⟨e1,e2,e3⟩:=hp.2.1 hl
   have hsl:t.slots=t.keys.zip (t.vals.zip t.over):=by rw[T.slots_eq,hl,hn'.1 hl];simp
   rw[hsl] at hs hex
   have hpos:=posT_there _ hs hex
   have hlen:=remZ_len hpos.1
   have hzl:(t.keys.zip (t.vals.zip t.over)).length=t.keys.length:=by simp[e1,e2]
   have hts:t.size=t.keys.length:=by simp[T.size,hl]
   rw[delT_leaf hl]
   refine⟨leafZ_soft (by have:=hp.1.2;omega) (fun s hm=>stand_soft (e3 _ (zip_mem (remZ_mem hm)))),fun _=>?_,fun _=>?_,?_⟩
   ·rw[neat_eq]
    exact⟨fun _=>rfl,fun e=>by simp[leafZ] at e,fun z hz=>by simp[leafZ] at hz⟩
   ·rw[T.ht_eq,T.ht_eq t,hl]
    simp[leafZ]
   ·rw[hsl,T.slots_eq]
    simp only[leafZ,if_true,List.map_nil,List.flatten_nil,List.append_nil]
    exact zip_map3 _
def HasK (key:ByteArray) (zs:List (ByteArray × ByteArray × Int)):Prop:=∃ s ∈ zs,s.1=key
def DelAns (w:World) (P:Nat->Prop) (key:ByteArray) (t:T) (u:Value) (e:Ending) (w':World):Prop :=
 (e=.returned (.bool true)∧HasK key t.slots∧(∃ P':Nat->Prop,GM w' P' (delT key t) u∧∀ b,P' b->(P b∨w.heap.size<=b)∧b<w'.heap.size)∧Fr P w w') ∨
 (e=.returned (.bool false)∧¬ HasK key t.slots∧Below w.heap.size w w')
set_option maxHeartbeats 2000000 in
theorem leafDel_any {w:World} {P:Nat->Prop} {t:T} {L:Nat} {a:Option Addr} {n c:Nat} (h:GML w P t L a n c) (hl:t.leaf=true) (hkd:t.kids=[]) (hs:SortT (t.keys.zip (t.vals.zip t.over))) (hn:n<=1000) (hP:∀ b,P b->b<w.heap.size) (key:ByteArray) :
  Calls Tryz.prog 107 #[.pointer (some ⟨L,0,none⟩),.string key] w fun e w'=>DelAns w P key t (.iface 119 (.pointer (some ⟨L,0,none⟩))) e w':=by
 obtain⟨N,hN⟩:∃ N,w.heap.size=N:=⟨_,rfl⟩
 obtain⟨zs,hzs⟩:∃ zs,t.keys.zip (t.vals.zip t.over)=zs:=⟨_,rfl⟩
 have hsl:t.slots=zs:=by rw[T.slots_eq,if_pos hl,hkd,hzs];simp
 have HDT:Hid (delT key t=leafZ (remZ key zs)):=by show _=_;rw[delT_leaf hl,hzs]
 have hc:=leafSearch_any h.see hs hn key
 have hrow:=h.row
 rw[hzs] at hc hrow hs
 have hzl:zs.length=n:=by have:=hrow.1;rw[rowsOf_length sl3] at this;omega
 have hLN:L<N:=by have:=hP L h.at';omega
 have hblk:∀ g,(Value.slice a n c).ownBlock=some g->P g∧g≠L∧g<N:=fun g hg=>⟨(h.blk g hg).1,(h.blk g hg).2,by have:=hP g (h.blk g hg).1;omega⟩
 have hbox:=h.box
 have hPL:=h.at'
 obtain⟨pg,hpg⟩:∃ pg,t.page=pg:=⟨_,rfl⟩
 rw[hpg] at hbox
 have HSL:Hid (t.slots=zs):=hsl
 clear h hzs hkd hl hpg hsl
 go_enter Tryz.func107,Tryz.ntmps107
 go_wp2_with fail
 refine hc.mono ?_
 rintro e V ⟨i,bb,rfl,h1,h2,h3,hb⟩
 have hpos:=pos_is key zs i h3
 have boxV:=(hb.block L (by omega)).trans hbox
 have rowV:=owns_below hrow hb
 have sV:=hb.size
 clear hc hbox hrow
 cases bb
 ·have HFIN:Hid (DelAns w P key t (.iface 119 (.pointer (some ⟨L,0,none⟩))) (.returned (.bool false)) V):=.inr ⟨rfl,fun ⟨s,hm,e⟩=>by
   rw[HSL.out] at hm
   obtain⟨k,hk,rfl⟩:=List.mem_iff_getElem.1 hm
   exact h2 rfl k hk (by simpa[List.getD,hk] using e),hb⟩
  clear h1 h2 h3 hpos boxV rowV hb
  go_wp2_with fail
  go_ret
  exact HFIN.out
 ·obtain⟨g1,g2⟩:=h1 rfl
  obtain⟨m,rfl⟩:∃ m,n=m+1:=⟨n - 1,by omega⟩
  have HHK:Hid (HasK key t.slots):=⟨zs.getD i (ByteArray.empty,ByteArray.empty,0),by rw[HSL.out,show zs.getD i (ByteArray.empty,ByteArray.empty,0)=zs[i] by simp[List.getD,g1]];exact List.getElem_mem _,g2⟩
  have HRZ:Hid (remZ key zs=zs.take i++zs.drop (i+1)):=by show _=_;unfold remZ;rw[<-hpos]
  have him:i<=m:=by omega
  clear h1 h2 h3 hpos g1 g2
  have hsoil:=soil_any boxV
  go_wp2_with fail
  refine hsoil.mono ?_
  rintro e W1 ⟨rfl,hW1⟩
  have f1:=fr_setT V L 0 (.int .i64 0)
  rw[<-hW1] at f1
  have box1:W1.heap[L]?=some (.cells #[.int .i64 0,.slice a (m+1) c] 121):=by rw[hW1];simpa using heap_setT boxV 0 (.int .i64 0)
  have row1:=owns_fr rowV f1 (fun g hg e=>(hblk g hg).2.1 e)
  have s1:=f1.size
  have F1:Fr (fun b=>P b∨N<=b) w W1:=(Fr.of_below hb).trans (f1.weak (fun g e=>.inl (by rw[e];exact hPL)))
  clear hW1 f1 boxV rowV hsoil hb
  have hdel:=deleteSlot_any i m c a (rowsOf slCells zs) W1 row1 him (by omega) (slots_one zs)
  obtain⟨c0,c1⟩:=box_twoG box1
  have lL1:L<W1.heap.size:=by omega
  have ff:=thawT box1
  go_wp2_with fail
  refine hdel.mono ?_
  rintro e W2 ⟨rfl,row2,f2⟩
  have box2:=(f2.block L lL1 (fun e=>(hblk L e).2.1 rfl)).trans box1
  have s2:=f2.size
  have F2:Fr (fun b=>P b∨N<=b) w W2:=F1.trans (f2.weak (fun g e=>.inl (hblk g e).1))
  have f3:=fr_setT W2 L 1 (.slice a m c)
  have box3:(W2.setCell ⟨L,1,none⟩ (.slice a m c)).heap[L]?=some (.cells #[.int .i64 0,.slice a m c] 121):=by simpa using heap_setT box2 1 (.slice a m c)
  have hown:(Value.slice a m c).ownBlock=(Value.slice a (m+1) c).ownBlock:=by cases a<;>rfl
  have row3:=owns_fr row2 f3 (fun g hg e=>(hblk g (by rw[<-hown];exact hg)).2.1 e)
  have hlen:(remZ key zs).length=m:=by rw[HRZ.out];simp;omega
  have HFIN:Hid (DelAns w P key t (.iface 119 (.pointer (some ⟨L,0,none⟩))) (.returned (.bool true)) (W2.setCell ⟨L,1,none⟩ (.slice a m c))):=by
   have:=leafPut_fin (w:=w) (P:=P) (L:=L) (c:=c) (a:=a) (zs:=remZ key zs) (w5:=W2.setCell ⟨L,1,none⟩ (.slice a m c)) (by rw[hN];exact F2.trans (f3.weak (fun g e=>.inl (by rw[e];exact hPL)))) (by rw[hlen];exact box3) (by
    rw[hlen,HRZ.out,rowsOf_append,rowsOf_takeG sl3,rowsOf_dropG sl3]
    exact row3) hPL (fun g hg=>by
    rw[hlen,hown] at hg
    exact⟨.inl (hblk g hg).1,(hblk g hg).2.1⟩)
   exact .inl ⟨rfl,HHK.out,by rw[HDT.out];exact this.2.1,this.2.2⟩
  have lL2:L<W2.heap.size:=by omega
  have ff2:=thawT box2
  clear row1 row2 row3 F1 F2 f2 f3 box1 box3 c0 c1 ff hdel hblk hown hlen
  obtain⟨c0,c1⟩:=box_twoG box2
  go_wp2_with fail
  go_ret
  exact HFIN.out
end Go.Proofs.YtbfggcekifaldaaGreat
