import Derived.Test.YtkhglgalbifcnaaGreatGAA
import Derived.Test.YtkhglgalbifcnaaGreatGAZ
import Derived.Test.YtkhglgalbifcnaaGreatGBA
namespace Go.Proofs.YtkhglgalbifcnaaGreat
open Go.RowKit
set_option linter.unusedVariables false
set_option linter.unusedSimpArgs false
set_option maxRecDepth 100000
structure Fit (t:T) (h:Int):Prop where
 good:t.good false=true
 neat:Neat t
 ht:t.ht=h
structure Few (t:T) (h:Int):Prop where
 soft:Soft t 1 1
 neat:Neat t
 ht:t.ht=h
def giveR (x y:T):List T:=[x.fore (x.size - 1),glueT (x.rest (x.size - 1)) y]
def giveL (x y:T):List T:=[glueT x (y.fore 1),y.rest 1]
def repl2 (ys:List T) (i:Nat) (f:T->T->List T):List T:=ys.take i++f (ys.getD i leafT) (ys.getD (i+1) leafT)++ys.drop (i+2)
def mendT (ys:List T) (m:Nat):List T :=
 if 0<m∧2<(ys.getD (m - 1) leafT).size then repl2 ys (m - 1) giveR
 else if m+1<ys.length∧2<(ys.getD (m+1) leafT).size then repl2 ys m giveL
 else repl2 ys (m - 1) (fun x y=>[glueT x y])
def remZ (key:ByteArray) (zs:List (ByteArray × ByteArray × Int)):List (ByteArray × ByteArray × Int):=zs.take (posT key zs)++zs.drop (posT key zs+1)
def delK (m:Nat) (y:List T) (d:T):List T:=if d.size<2 then mendT (y.set m d) m else y.set m d
def delT (key:ByteArray):T->T
 | ⟨l,p,k,v,o,y⟩=>if l then leafZ (remZ key (k.zip (v.zip o))) else ⟨false,0,[],[],[],delK (towN key y) y ((y.map (delT key)).getD (towN key y) leafT)⟩
structure DelIs (key:ByteArray) (t d:T):Prop where
 soft:Soft d (t.size - 1) 4
 neat:0<d.size->Neat d
 ht:0<d.size->d.ht=t.ht
 slots:d.slots=remZ key t.slots
def prZ (s:ByteArray × ByteArray × Int):ByteArray × ByteArray:=(s.1,s.2.1)
def lwS (key val:ByteArray):Bool->List (ByteArray × ByteArray)->List (ByteArray × ByteArray)
 | d,[]=>if d then [] else [(key,val)]
 | d,s::r=>(if (!d && !lessB s.1 key)=true then [(key,val)] else [])++(if s.1=key then [] else [s])++lwS key val (d || !lessB s.1 key) r
def lwD (key:ByteArray) (m:List (ByteArray × ByteArray)):List (ByteArray × ByteArray):=m.filter (fun s=>decide (s.1≠key))
structure PgC where
 kind:Int
 next:Int
 data:ByteArray
 ents:List (ByteArray × ByteArray × Int × Int)
 kids:List (ByteArray × Int)
def PgC.over (next:Int) (data:ByteArray):PgC:=⟨4,next,data,[],[]⟩
def PgC.leaf (ents:List (ByteArray × ByteArray × Int × Int)):PgC:=⟨3,0,ByteArray.empty,ents,[]⟩
def PgC.branch (kids:List (ByteArray × Int)):PgC:=⟨2,0,ByteArray.empty,[],kids⟩
def entC (x:ByteArray × ByteArray × Int):ByteArray × ByteArray × Int × Int:=if 8<x.2.1.size then (x.1,ByteArray.empty,x.2.2,(x.2.1.size:Int)) else (x.1,x.2.1,0,(x.2.1.size:Int))
def kidsC (ys:List T):List (ByteArray × Int):=ys.zipIdx.map (fun x=>(if x.2=0 then ByteArray.empty else x.1.low,x.1.page))
structure PSt where
 used:List Bool
 bad:Bool
 log:List (Int × PgC)
def freeFrom (u:List Bool) (i:Nat):Nat->Option Nat
 | 0=>none
 | f+1=>if u.getD i true then freeFrom u (i+1) f else some i
def nxtP (s:PSt):Int × PSt:=match freeFrom s.used 2 998 with
 | some i=>((i:Int),{ s with used:=s.used.set i true })
 | none=>(0,{ s with bad:=true })
def takeP:Nat->PSt->List Int × PSt
 | 0,s=>([],s)
 | n+1,s=>((nxtP s).1::(takeP n (nxtP s).2).1,(takeP n (nxtP s).2).2)
def ovPages (v:ByteArray) (ns:List Int):List (Int × PgC):=(List.range ns.length).map (fun k=>(ns.getD k 0,.over (if v.size<=(k+1)*96 then 0 else ns.getD (k+1) 0) (v.extract (k*96) (min ((k+1)*96) v.size))))
def valP (v:ByteArray) (s:PSt):Int × PSt:=((takeP ((v.size+95) / 96) s).1.headD 0,{ (takeP ((v.size+95) / 96) s).2 with log:=(takeP ((v.size+95) / 96) s).2.log++ovPages v (takeP ((v.size+95) / 96) s).1 })
def overP:List (ByteArray × Int)->PSt->List Int × PSt
 | [],s=>([],s)
 | x::r,s=>if 8<x.1.size∧x.2=0 then ((valP x.1 s).1::(overP r (valP x.1 s).2).1,(overP r (valP x.1 s).2).2) else (x.2::(overP r s).1,(overP r s).2)
def stepsP:List (PSt->T × PSt)->PSt->List T × PSt
 | [],s=>([],s)
 | g::r,s=>((g s).1::(stepsP r (g s).2).1,(stepsP r (g s).2).2)
def pageP (t:T):PgC:=if t.leaf then .leaf ((t.keys.zip (t.vals.zip t.over)).map entC) else .branch (kidsC t.kids)
def endP (l:Bool) (k v:List ByteArray) (y:List T) (o:List Int × PSt):T × PSt :=
 (⟨l,(nxtP o.2).1,k,v,o.1,y⟩,{ (nxtP o.2).2 with log:=(nxtP o.2).2.log++[((nxtP o.2).1,pageP ⟨l,(nxtP o.2).1,k,v,o.1,y⟩)] })
def placeT:T->PSt->T × PSt
 | ⟨l,p,k,v,o,y⟩,s=>if p≠0 then (⟨l,p,k,v,o,y⟩,s) else
  endP l k v (stepsP (y.map placeT) s).1 (if l then overP (v.zip o) (stepsP (y.map placeT) s).2 else (o,(stepsP (y.map placeT) s).2))
theorem placeT_eq (t:T) (s:PSt):placeT t s=if t.page≠0 then (t,s) else endP t.leaf t.keys t.vals (stepsP (t.kids.map placeT) s).1 (if t.leaf then overP (t.vals.zip t.over) (stepsP (t.kids.map placeT) s).2 else (t.over,(stepsP (t.kids.map placeT) s).2)):=by
 cases t;rw[placeT]
theorem overP_len:∀ (x:List (ByteArray × Int)) (s:PSt),(overP x s).1.length=x.length
 | [],s=>rfl
 | x::r,s=>by
  rw[overP]
  split
  ·simp[overP_len r]
  ·simp[overP_len r]
theorem stepsP_len:∀ (g:List (PSt->T × PSt)) (s:PSt),(stepsP g s).1.length=g.length
 | [],s=>rfl
 | g::r,s=>by rw[stepsP];simp[stepsP_len r]
theorem stepsP_get:∀ (g:List (PSt->T × PSt)) (s:PSt) (i:Nat),i<g.length->∃ s',(stepsP g s).1[i]?=(g[i]?).map (fun f=>(f s').1)
 | [],s,i,h=>by simp at h
 | g::r,s,0,h=>⟨s,by simp[stepsP]⟩
 | g::r,s,i+1,h=>by
  obtain⟨s',e⟩:=stepsP_get r (g s).2 i (by simpa using h)
  exact⟨s',by rw[stepsP];simpa using e⟩
theorem stepsP_map {α:Type} (f:T->α):∀ (y:List T) (s:PSt),(∀ k ∈ y,∀ s,f (placeT k s).1=f k)->(stepsP (y.map placeT) s).1.map f=y.map f
 | [],s,h=>rfl
 | k::r,s,h=>by
  rw[List.map_cons,stepsP]
  simp only[List.map_cons]
  rw[h k (List.mem_cons_self ..),stepsP_map f r _ (fun x hx=>h x (List.mem_cons_of_mem _ hx))]
theorem place_leaf (t:T) (s:PSt):(placeT t s).1.leaf=t.leaf:=by rw[placeT_eq];split<;>rfl
theorem place_keys (t:T) (s:PSt):(placeT t s).1.keys=t.keys:=by rw[placeT_eq];split<;>rfl
theorem place_vals (t:T) (s:PSt):(placeT t s).1.vals=t.vals:=by rw[placeT_eq];split<;>rfl
theorem place_kidsN (t:T) (s:PSt):(placeT t s).1.kids.length=t.kids.length:=by
 rw[placeT_eq]
 split
 ·rfl
 ·show (stepsP (t.kids.map placeT) s).1.length=_
  rw[stepsP_len,List.length_map]
theorem place_size (t:T) (s:PSt):(placeT t s).1.size=t.size:=by
 unfold T.size
 rw[place_leaf,place_keys,place_kidsN]
theorem place_nodes:∀ (t:T) (s:PSt),(placeT t s).1.nodes=t.nodes:=by
 intro t
 induction t using T.ind with
 | h t ih =>
  intro s
  rw[placeT_eq]
  split
  ·rfl
  ·rw[T.nodes_eq,T.nodes_eq t]
   show 1+((stepsP (t.kids.map placeT) s).1.map T.nodes).sum=_
   rw[stepsP_map T.nodes t.kids s ih]
theorem place_ht:∀ (t:T) (s:PSt),(placeT t s).1.ht=t.ht:=by
 intro t
 induction t using T.ind with
 | h t ih =>
  intro s
  rw[placeT_eq]
  split
  ·rfl
  ·rw[T.ht_eq,T.ht_eq t]
   show (if t.leaf then 0 else T.htOf ((stepsP (t.kids.map placeT) s).1.map T.ht))=_
   rw[stepsP_map T.ht t.kids s ih]
theorem place_low:∀ (t:T) (s:PSt),(placeT t s).1.low=t.low:=by
 intro t
 induction t using T.ind with
 | h t ih =>
  intro s
  have h1:=place_leaf t s
  have h2:=place_keys t s
  cases hl:t.leaf
  ·by_cases hp:t.page≠0
   ·rw[placeT_eq,if_pos hp]
   ·have hk:(placeT t s).1.kids=(stepsP (t.kids.map placeT) s).1:=by rw[placeT_eq,if_neg hp];rfl
    match hy:t.kids with
    | [] =>
     have e:placeT t s=placeT t s:=rfl
     obtain⟨l,p,k,v,o,y⟩:=t
     simp only at hl hy hp
     subst hl hy
     rw[placeT_eq,if_neg hp]
     show T.low ⟨_,_,_,_,_,_⟩=_
     rw[T.low.eq_def,T.low.eq_def]
     rfl
    | k::r =>
     rw[hy,List.map_cons,stepsP] at hk
     rw[T.low_inner (by rw[h1,hl]) hk,T.low_inner hl hy]
     exact ih k (by rw[hy];exact List.mem_cons_self ..) s
  ·rw[T.low_leaf (by rw[h1,hl]),T.low_leaf hl,h2]
theorem zip_prZ:∀ (k v:List ByteArray) (o:List Int),v.length=k.length->o.length=k.length->(k.zip (v.zip o)).map prZ=k.zip v
 | [],_,_,_,_=>by simp
 | a::k,[],_,h,_=>by simp at h
 | a::k,b::v,[],_,h=>by simp at h
 | a::k,b::v,c::o,h1,h2=>by
  have:=zip_prZ k v o (by simpa using h1) (by simpa using h2)
  simp[prZ] at this ⊢
  exact this
theorem flat_map2 {α β:Type} (f:α->β):∀ (l:List (List α)),l.flatten.map f=(l.map (fun x=>x.map f)).flatten
 | []=>rfl
 | x::r=>by simp[flat_map2 f r]
theorem place_prs:∀ (t:T),(∃ r,t.good r=true)->∀ s,(placeT t s).1.slots.map prZ=t.slots.map prZ:=by
 intro t
 induction t using T.ind with
 | h t ih =>
  rintro ⟨r,hg⟩ s
  have hk:∀ k ∈ t.kids,k.good false=true:=(good_parts hg).2.2
  rw[placeT_eq]
  split
  ·rfl
  ·rw[T.slots_eq,T.slots_eq t]
   show ((if t.leaf then t.keys.zip (t.vals.zip _) else [])++((stepsP (t.kids.map placeT) s).1.map T.slots).flatten).map prZ=_
   rw[List.map_append,List.map_append,flat_map2,flat_map2,List.map_map,List.map_map]
   have h1:=stepsP_map (fun x:T=>x.slots.map prZ) t.kids s (fun k hkm s=>ih k hkm ⟨false,hk k hkm⟩ s)
   have h2:((fun x:List (ByteArray × ByteArray × Int)=>x.map prZ) ∘ T.slots)=(fun x:T=>x.slots.map prZ):=rfl
   rw[h2,h1]
   congr 1
   cases hl:t.leaf
   ·rfl
   ·simp only[if_true]
    obtain⟨g1,g2,_⟩:=(good_parts hg).2.1 hl
    have hov:(overP (t.vals.zip t.over) (stepsP (t.kids.map placeT) s).2).1.length=t.keys.length:=by rw[overP_len];simp[g1,g2]
    exact (zip_prZ _ _ _ g1 hov).trans (zip_prZ _ _ _ g1 g2).symm
theorem place_neat:∀ (t:T),Neat t->∀ s,Neat (placeT t s).1:=by
 intro t
 induction t using T.ind with
 | h t ih =>
  intro hn s
  have h:=(neat_eq t).1 hn
  rw[placeT_eq]
  split
  ·exact hn
  ·rw[neat_eq]
   refine⟨fun hl=>?_,fun hl=>?_,fun z hz=>?_⟩
   ·show (stepsP (t.kids.map placeT) s).1=[]
    rw[h.1 hl];rfl
   ·have hl:t.leaf=false:=hl
    obtain⟨h1,h2,h3,h4⟩:=h.2.1 hl
    refine⟨h1,h2,?_,fun e=>h4 ?_⟩
    ·show (if t.leaf then overP (t.vals.zip t.over) (stepsP (t.kids.map placeT) s).2 else (t.over,(stepsP (t.kids.map placeT) s).2)).1=[]
     rw[hl];exact h3
    ·have h5:=stepsP_len (t.kids.map placeT) s
     rw[show (stepsP (t.kids.map placeT) s).1=[] from e] at h5
     simpa using h5.symm
   ·have hz:z ∈ (stepsP (t.kids.map placeT) s).1:=hz
    obtain⟨i,hi,rfl⟩:=List.mem_iff_getElem.1 hz
    have hi2:i<(t.kids.map placeT).length:=by rw[stepsP_len] at hi;exact hi
    obtain⟨s',e⟩:=stepsP_get (t.kids.map placeT) s i hi2
    rw[List.getElem?_eq_getElem hi,List.getElem?_eq_getElem hi2] at e
    simp only[Option.map_some,Option.some.injEq,List.getElem_map] at e
    rw[e]
    exact ih _ (List.getElem_mem _) (h.2.2 _ (List.getElem_mem _)) s'
def Us (s:PSt) (x:Int):Prop:=s.used.getD x.toNat true=true
theorem free_some (u:List Bool):∀ (f i k:Nat),freeFrom u i f=some k->i<=k∧k<i+f∧u.getD k true=false
 | 0,i,k,h=>by simp[freeFrom] at h
 | f+1,i,k,h=>by
  rw[freeFrom] at h
  split at h
  ·obtain⟨h1,h2,h3⟩:=free_some u f (i+1) k h
   exact⟨by omega,by omega,h3⟩
  ·rename_i hu
   simp only[Option.some.injEq] at h
   subst h
   exact⟨Nat.le_refl _,by omega,by simpa using hu⟩
structure Pl (s s':PSt) (new:List Int):Prop where
 len:s'.used.length=s.used.length
 up:∀ x,Us s x->Us s' x
 was:s'.bad=false->s.bad=false
 one:s'.bad=false->new.Nodup∧∀ x ∈ new,2<=x∧x<=999∧¬ Us s x∧Us s' x
theorem Pl.refl (s:PSt):Pl s s []:=⟨rfl,fun _ h=>h,fun h=>h,fun _=>⟨List.nodup_nil,fun x hx=>by cases hx⟩⟩
theorem Pl.trans {s s1 s2:PSt} {a b:List Int} (h:Pl s s1 a) (k:Pl s1 s2 b):Pl s s2 (a++b):=by
 refine⟨by rw[k.len,h.len],fun x hx=>k.up x (h.up x hx),fun e=>h.was (k.was e),fun e=>?_⟩
 obtain⟨h1,h2⟩:=h.one (k.was e)
 obtain⟨k1,k2⟩:=k.one e
 refine⟨List.nodup_append.2 ⟨h1,k1,fun x hx y hy=>?_⟩,fun x hx=>?_⟩
 ·rintro rfl
  exact (k2 x hy).2.2.1 (h2 x hx).2.2.2
 ·rcases List.mem_append.1 hx with hx | hx
  ·obtain⟨q1,q2,q3,q4⟩:=h2 x hx
   exact⟨q1,q2,q3,k.up x q4⟩
  ·obtain⟨q1,q2,q3,q4⟩:=k2 x hx
   exact⟨q1,q2,fun hu=>q3 (h.up x hu),q4⟩
theorem nxt_pl {s:PSt} (hl:s.used.length=1000):Pl s (nxtP s).2 [(nxtP s).1]:=by
 unfold nxtP
 split
 ·rename_i i hi
  obtain⟨h1,h2,h3⟩:=free_some _ _ _ _ hi
  have hu:∀ x,Us s x->Us { s with used:=s.used.set i true } x:=fun x hx=>by
   unfold Us at hx ⊢
   show (s.used.set i true).getD x.toNat true=true
   by_cases e:x.toNat=i
   ·simp[List.getD,e,show i<s.used.length by omega]
   ·simpa[List.getD,List.getElem?_set,Ne.symm e] using hx
  refine⟨by simp,hu,fun e=>e,fun e=>⟨by simp,fun x hx=>?_⟩⟩
  simp only[List.mem_singleton] at hx
  subst hx
  refine⟨by omega,by omega,?_,?_⟩
  ·unfold Us
   rw[show ((i:Int)).toNat=i by omega,h3]
   simp
  ·unfold Us
   show (s.used.set i true).getD ((i:Int)).toNat true=true
   simp[List.getD,show i<s.used.length by omega]
 ·exact⟨rfl,fun x h=>h,fun e=>(by cases e),fun e=>(by cases e)⟩
theorem Pl.log {s s':PSt} {n:List Int} (h:Pl s s' n) (l:List (Int × PgC)):Pl s { s' with log:=l } n:=⟨h.len,h.up,h.was,h.one⟩
theorem take_pl:∀ (n:Nat) (s:PSt),s.used.length=1000->Pl s (takeP n s).2 (takeP n s).1
 | 0,s,h=>Pl.refl s
 | n+1,s,h=>by
  have h1:=nxt_pl h
  have h2:=take_pl n (nxtP s).2 (by rw[h1.len,h])
  exact h1.trans h2
theorem take_len:∀ (n:Nat) (s:PSt),(takeP n s).1.length=n
 | 0,s=>rfl
 | n+1,s=>by rw[takeP];simp[take_len n]
theorem val_pl {v:ByteArray} {s:PSt} (h:s.used.length=1000) (hv:8<v.size):∃ r,Pl s (valP v s).2 ((valP v s).1::r):=by
 have h1:=take_pl ((v.size+95) / 96) s h
 have h2:=take_len ((v.size+95) / 96) s
 have h3:(valP v s).1=(takeP ((v.size+95) / 96) s).1.headD 0:=rfl
 have h4:(valP v s).2={ (takeP ((v.size+95) / 96) s).2 with log:=(takeP ((v.size+95) / 96) s).2.log++ovPages v (takeP ((v.size+95) / 96) s).1 }:=rfl
 have hp:0<(v.size+95) / 96:=by omega
 rw[h4,h3]
 match hm:(takeP ((v.size+95) / 96) s).1,h1 with
 | [],_=>rw[hm] at h2;simp at h2;omega
 | x::r,h1=>exact⟨r,h1.log _⟩
theorem over_pl:∀ (l:List (ByteArray × Int)) (s:PSt),s.used.length=1000->∃ new,Pl s (overP l s).2 new∧∀ x,(overP l s).1.count x<=(l.map (fun y=>y.2)).count x+new.count x
 | [],s,h=>⟨[],Pl.refl s,fun x=>by simp[overP]⟩
 | y::r,s,h=>by
  rw[overP]
  split
  ·rename_i hc
   obtain⟨r1,p1⟩:=val_pl h hc.1
   obtain⟨n2,p2,c2⟩:=over_pl r (valP y.1 s).2 (by rw[p1.len,h])
   refine⟨_,p1.trans p2,fun x=>?_⟩
   have:=c2 x
   simp only[List.map_cons,List.count_cons,List.count_append]
   omega
  ·obtain⟨n2,p2,c2⟩:=over_pl r s h
   refine⟨n2,p2,fun x=>?_⟩
   have:=c2 x
   simp only[List.map_cons,List.count_cons]
   omega
theorem steps_pl:∀ (y:List T) (s:PSt),s.used.length=1000->(∀ k ∈ y,∀ s,s.used.length=1000->∃ new,Pl s (placeT k s).2 new∧∀ x,x≠0->(placeT k s).1.nums.count x<=k.nums.count x+new.count x) ->
  ∃ new,Pl s (stepsP (y.map placeT) s).2 new∧∀ x,x≠0->((stepsP (y.map placeT) s).1.map T.nums).flatten.count x<=(y.map T.nums).flatten.count x+new.count x
 | [],s,h,_=>⟨[],Pl.refl s,fun x _=>by simp[stepsP]⟩
 | k::r,s,h,hk=>by
  obtain⟨n1,p1,c1⟩:=hk k (List.mem_cons_self ..) s h
  obtain⟨n2,p2,c2⟩:=steps_pl r (placeT k s).2 (by rw[p1.len,h]) (fun x hx=>hk x (List.mem_cons_of_mem _ hx))
  refine⟨_,p1.trans p2,fun x hx=>?_⟩
  have h1:=c1 x hx
  have h2:=c2 x hx
  rw[List.map_cons,stepsP]
  simp only[List.map_cons,List.flatten_cons,List.count_append]
  omega
theorem count_filt (x:Int) (hx:x≠0):∀ (o:List Int),(o.filter (fun y=>y != 0)).count x=o.count x
 | []=>rfl
 | a::r=>by
  by_cases ha:a=0
  ·subst ha
   rw[List.filter_cons_of_neg (by simp),count_filt x hx r,List.count_cons]
   simp[Ne.symm hx]
  ·rw[List.filter_cons_of_pos (by simpa using ha),List.count_cons,List.count_cons,count_filt x hx r]
theorem place_pl:∀ (t:T),(∃ r,t.good r=true)->∀ (s:PSt),s.used.length=1000->∃ new,Pl s (placeT t s).2 new∧∀ x,x≠0->(placeT t s).1.nums.count x<=t.nums.count x+new.count x:=by
 intro t
 induction t using T.ind with
 | h t ih =>
  rintro ⟨r,hg⟩ s hs
  have hp:=good_parts hg
  rw[placeT_eq]
  by_cases h0:t.page≠0
  ·rw[if_pos h0]
   exact⟨[],Pl.refl s,fun x _=>by simp⟩
  ·rw[if_neg h0]
   obtain⟨n1,p1,c1⟩:=steps_pl t.kids s hs (fun k hk s hs=>ih k hk ⟨false,hp.2.2 k hk⟩ s hs)
   have ho:∃ n2,Pl (stepsP (t.kids.map placeT) s).2 (if t.leaf then overP (t.vals.zip t.over) (stepsP (t.kids.map placeT) s).2 else (t.over,(stepsP (t.kids.map placeT) s).2)).2 n2∧∀ x,(if t.leaf then overP (t.vals.zip t.over) (stepsP (t.kids.map placeT) s).2 else (t.over,(stepsP (t.kids.map placeT) s).2)).1.count x<=t.over.count x+n2.count x:=by
    cases hl:t.leaf
    ·exact⟨[],Pl.refl _,fun x=>by simp⟩
    ·obtain⟨n2,p2,c2⟩:=over_pl (t.vals.zip t.over) (stepsP (t.kids.map placeT) s).2 (by rw[p1.len,hs])
     obtain⟨g1,g2,_⟩:=hp.2.1 hl
     refine⟨n2,p2,fun x=>?_⟩
     have:=c2 x
     rw[show (t.vals.zip t.over).map (fun y=>y.2)=t.over from List.map_snd_zip (by omega)] at this
     exact this
   obtain⟨n2,p2,c2⟩:=ho
   generalize (if t.leaf then overP (t.vals.zip t.over) (stepsP (t.kids.map placeT) s).2 else (t.over,(stepsP (t.kids.map placeT) s).2))=os at p2 c2 ⊢
   have p3:=nxt_pl (s:=os.2) (by rw[p2.len,p1.len,hs])
   refine⟨_,((p1.trans p2).trans p3).log _,fun x hx=>?_⟩
   have h1:=c1 x hx
   have h2:=c2 x
   rw[T.nums_eq,T.nums_eq t]
   show ((if (nxtP os.2).1=0 then [] else [(nxtP os.2).1])++os.1.filter (fun x=>x != 0)++((stepsP (t.kids.map placeT) s).1.map T.nums).flatten).count x<=_
   rw[if_pos (show t.page=0 by simpa using h0)]
   simp only[List.count_append,count_filt x hx,List.nil_append]
   have h3:(if (nxtP os.2).1=0 then [] else [(nxtP os.2).1]).count x<=[(nxtP os.2).1].count x:=by
    split
    ·simp
    ·exact Nat.le_refl _
   omega
theorem nums_ne0 (t:T):(0:Int) ∉ t.nums:=by
 induction t using T.ind with
 | h t ih =>
  rw[T.nums_eq]
  intro h
  rcases List.mem_append.1 h with h | h
  ·rcases List.mem_append.1 h with h | h
   ·split at h
    ·cases h
    ·rename_i hc
     simp only[List.mem_singleton] at h
     exact hc h.symm
   ·simp at h
  ·obtain⟨l,hl,h0⟩:=List.mem_flatten.1 h
   obtain⟨k,hk,rfl⟩:=List.mem_map.1 hl
   exact ih k hk h0
theorem place_nodup {t:T} {s:PSt} (hg:t.good true=true) (hs:s.used.length=1000) (hn:t.nums.Nodup) (hu:∀ x ∈ t.nums,Us s x) (hb:(placeT t s).2.bad=false):(placeT t s).1.nums.Nodup:=by
 obtain⟨new,hp,hc⟩:=place_pl t ⟨true,hg⟩ s hs
 obtain⟨h1,h2⟩:=hp.one hb
 rw[List.nodup_iff_count] at hn h1 ⊢
 intro x
 by_cases hx:x=0
 ·subst hx
  rw[List.count_eq_zero_of_not_mem (nums_ne0 _)]
  omega
 ·have h3:=hc x hx
  have h4:=hn x
  have h5:=h1 x
  by_cases hm:x ∈ new
  ·have:x ∉ t.nums:=fun h=>(h2 x hm).2.2.1 (hu x h)
   rw[List.count_eq_zero_of_not_mem this] at h3
   omega
  ·rw[List.count_eq_zero_of_not_mem hm] at h3
   omega
end Go.Proofs.YtkhglgalbifcnaaGreat
