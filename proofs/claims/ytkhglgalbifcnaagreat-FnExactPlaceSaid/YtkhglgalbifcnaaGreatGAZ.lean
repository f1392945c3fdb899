import Derived.Test.YtkhglgalbifcnaaGreatGAY
namespace Go.Proofs.YtkhglgalbifcnaaGreat
open Go.RowKit
set_option linter.unusedVariables false
set_option linter.unusedSimpArgs false
set_option maxRecDepth 100000
structure Soft (t:T) (lo hi:Nat):Prop where
 page:t.page=0
 size:lo<=t.size∧t.size<=hi
 leaf:t.leaf=true->t.vals.length=t.keys.length∧t.over.length=t.keys.length∧(∀ x ∈ t.vals.zip t.over,standB 0 x.1 x.2=true)∧t.kids=[]
 kids:∀ k ∈ t.kids,k.good false=true∧Shape k
theorem good_parts {t:T} {r:Bool} (h:t.good r=true):((if r && t.leaf then 0 else 2)<=t.size∧t.size<=4)∧(t.leaf=true->t.vals.length=t.keys.length∧t.over.length=t.keys.length∧∀ x ∈ t.vals.zip t.over,standB t.page x.1 x.2=true)∧∀ k ∈ t.kids,k.good false=true:=by
 have h0:=h
 rw[T.good_eq] at h
 simp only[Bool.and_eq_true,decide_eq_true_eq] at h
 refine⟨by simpa using h.1.1.1.1,fun hl=>?_,fun k hk=>goodG_kid h0 hk⟩
 have h2:=h.1.1.2
 rw[hl] at h2
 simp only[Bool.not_true,Bool.false_or,Bool.and_eq_true,decide_eq_true_eq,List.all_eq_true] at h2
 exact⟨h2.1.1,h2.1.2,h2.2⟩
theorem good_whole:∀ (t:T) (r:Bool),t.good r=true->Shape t->t.whole=true:=by
 intro t
 induction t using T.ind with
 | h t ih =>
  intro r hg hs
  rw[shape_eq] at hs
  obtain⟨hsz,hlf,hkd⟩:=good_parts hg
  rw[T.whole_eq]
  simp only[Bool.and_eq_true]
  refine⟨⟨?_,?_⟩,?_⟩
  ·cases hl:t.leaf
   ·rfl
   ·obtain⟨e1,e2,_⟩:=hlf hl
    have hsk:t.size=t.keys.length:=by simp[T.size,hl]
    simp only[Bool.not_true,Bool.false_or,Bool.and_eq_true,decide_eq_true_eq]
    exact⟨⟨⟨e1,e2⟩,by omega⟩,by simp[hs.1 hl]⟩
  ·cases hl:t.leaf
   ·have hsk:t.size=t.kids.length:=by simp[T.size,hl]
    simp only[Bool.false_or,Bool.and_eq_true,List.all_eq_true,decide_eq_true_eq]
    refine⟨?_,fun k hk=>?_⟩
    ·cases hk:t.kids with
     | nil=>rw[hk] at hsk;simp[hl] at hsz hsk;omega
     | cons a b=>rfl
    ·have:=(good_parts (hkd k hk)).1;simp at this;omega
   ·rfl
  ·rw[List.all_eq_true]
   intro x hx
   obtain⟨k,hk,rfl⟩:=List.mem_map.1 hx
   exact ih k hk false (hkd k hk) (hs.2 k hk)
def Neat:T->Prop
 | ⟨l,_,k,v,o,y⟩=>(l=true->y=[])∧(l=false->k=[]∧v=[]∧o=[]∧y≠[])∧∀ z,z ∈ y->Neat z
theorem neat_eq (t:T):Neat t ↔ (t.leaf=true->t.kids=[])∧(t.leaf=false->t.keys=[]∧t.vals=[]∧t.over=[]∧t.kids≠[])∧∀ z ∈ t.kids,Neat z:=by cases t;rw[Neat]
theorem Neat.shape:∀ (t:T),Neat t->Shape t:=by
 intro t
 induction t using T.ind with
 | h t ih =>
  intro h
  rw[neat_eq] at h
  rw[shape_eq]
  exact⟨h.1,fun k hk=>ih k hk (h.2.2 k hk)⟩
theorem drop_cons {α:Type} {l:List α} {s:Nat} {x d:α} {r:List α} (h:l.drop s=x::r):s<l.length∧l.getD s d=x∧l.drop (s+1)=r:=by
 have h1:s<l.length:=by
  rcases Nat.lt_or_ge s l.length with h2 | h2
  ·exact h2
  ·rw[List.drop_eq_nil_of_le h2] at h;cases h
 rw[List.drop_eq_getElem_cons h1] at h
 simp only[List.cons.injEq] at h
 exact⟨h1,by simp[List.getD,List.getElem?_eq_getElem h1,h.1],h.2⟩
theorem rdK_flat {ts:List TN} {f:Nat} (hf:∀ (t:T) (s:Nat) (post:List TN),Neat t->t.nodes<=f->ts.drop s=t.flat s++post->rd ts f s=(t,s+t.nodes,false)):∀ (ys:List T) (s:Nat) (post:List TN),(∀ y ∈ ys,Neat y)->(ys.map T.nodes).sum<=f->ts.drop s=offs s (ys.map T.flat)++post->rdK (rd ts f) (startsN s (ys.map T.nodes)) s=(ys,s+(ys.map T.nodes).sum,false)
 | [],s,post,_,_,_=>by simp[startsN,rdK]
 | y::r,s,post,hn,hl,hd=>by
  simp only[List.map_cons,List.sum_cons] at hl
  simp only[List.map_cons,offs,List.append_assoc] at hd
  have hy:=hn y (List.mem_cons_self ..)
  have h1:=hf y s _ hy (by omega) hd
  have hlen:=flat_len y hy.shape s
  rw[hlen] at hd
  have hd2:ts.drop (s+y.nodes)=offs (s+y.nodes) (r.map T.flat)++post:=by
   rw[<-List.drop_drop,hd,<-hlen,List.drop_left]
  have h2:=rdK_flat hf r (s+y.nodes) post (fun z hz=>hn z (List.mem_cons_of_mem _ hz)) (by omega) hd2
  simp only[List.map_cons,startsN,rdK,h1,if_true,Bool.false_eq_true,if_false,h2,List.sum_cons,Nat.add_assoc]
theorem rd_flat (ts:List TN):∀ (f:Nat) (t:T) (s:Nat) (post:List TN),Neat t->t.nodes<=f->ts.drop s=t.flat s++post->rd ts f s=(t,s+t.nodes,false)
 | 0,t,s,post,hn,hf,hd=>by
  have:1<=t.nodes:=by rw[T.nodes_eq];omega
  omega
 | f+1,t,s,post,hn,hf,hd=>by
  rw[neat_eq] at hn
  rw[T.flat_eq] at hd
  cases hl:t.leaf
  ·rw[hl] at hd
   simp only[Bool.false_eq_true,if_false,List.cons_append] at hd
   obtain⟨h1,h2,h3⟩:=drop_cons (d:=dT) hd
   obtain⟨e1,e2,e3,e4⟩:=hn.2.1 hl
   have hns:t.nodes=1+(t.kids.map T.nodes).sum:=T.nodes_eq t
   have hk:=rdK_flat (rd_flat ts f) t.kids (s+1) post hn.2.2 (by omega) h3
   have hkl:¬ (startsN (s+1) (t.kids.map T.nodes)).length=0:=by
    cases hy:t.kids with
    | nil=>exact absurd hy e4
    | cons a r=>simp[startsN]
   rw[rd,if_pos h1,h2]
   simp only[Bool.false_eq_true,if_false,hkl,hk]
   obtain⟨l,p,k,v,o,y⟩:=t
   simp only at hl e1 e2 e3 hns
   subst hl e1 e2 e3
   have e9:s+1+(y.map T.nodes).sum=s+(⟨false,p,[],[],[],y⟩:T).nodes:=by rw[hns];omega
   rw[<-e9]
  ·rw[hl] at hd
   simp only[if_true,List.cons_append,List.nil_append] at hd
   obtain⟨h1,h2,h3⟩:=drop_cons (d:=dT) hd
   have e1:=hn.1 hl
   rw[rd,if_pos h1,h2]
   obtain⟨l,p,k,v,o,y⟩:=t
   simp only at hl e1
   subst hl e1
   simp[T.nodes]
theorem flat_ok {t:T} (hg:t.good true=true) (hn:Neat t) (hh:0<=t.ht) (hm:t.nodes<=1000) (hk:t.slots.all (fun s=>kyB s.1)=true) (ha:ascB (t.slots.map (fun s=>s.1))=true) (hu:t.nums.Nodup):SpecOk (t.flat 0)∧rd (t.flat 0) ((t.flat 0).length+1) 0=(t,(t.flat 0).length,false):=by
 have hl:=flat_len t hn.shape 0
 have h1:1<=t.nodes:=by rw[T.nodes_eq];omega
 have hr:=rd_flat (t.flat 0) ((t.flat 0).length+1) t 0 [] hn (by omega) (by simp)
 rw[Nat.zero_add,<-hl] at hr
 exact⟨⟨⟨by omega,by omega⟩,t,hr,hg,hk,hh,by omega,ha,rfl,hu⟩,hr⟩
theorem sort_ascB:∀ (zs:List (ByteArray × ByteArray × Int)),SortT zs->ascB (zs.map (fun s=>s.1))=true
 | [],_=>rfl
 | [a],_=>rfl
 | a::b::r,h=>by
  have h1:=List.pairwise_cons.1 h
  have h2:=sort_ascB (b::r) h1.2
  simp only[List.map_cons,ascB,Bool.and_eq_true] at h2 ⊢
  exact⟨h1.1 b (List.mem_cons_self ..),h2⟩
theorem emptyC (w:World) (e:TypeId):(w.alloc (.cells #[] e)).ownsRow w.heap.size e 1 (.slice (some ⟨w.heap.size,0,none⟩) 0 0) 0 []:=by
 have:=World.ownsRow_made w #[] (base:=w.heap.size) (e:=e) (size:=1) 0 (by simp) (by unfold maxLen;omega) (by simp)
 simpa using this
theorem info_i64C:(Tryz.prog.info? 2).map (fun i=>(i.zero,i.size,i.bytes))=some (some (.int .i64 0),1,8):=by kernel_rfl
set_option maxHeartbeats 1000000 in
theorem cloneInt_any (a:Option Addr) (n c:Nat) (xs:List Value) (w:World) (hx:xs.length=n) (hm:n<=1048576) (h0:a=none->n=0) (h1:∀ u ∈ xs,u.oneCell'=true) (hc:∀ ad,a=some ad->∀ j u,xs[j]?=some u->(ad.add j).block<w.heap.size∧w.cell? (ad.add j)=some u) :
  Calls Tryz.prog 51 #[.slice a n c] w fun e w'=>∃ v,e=.returned v∧w'.ownsRow w.heap.size 2 1 v n xs∧Below w.heap.size w w':=by
 have hq:∀ (w:World) (a:Option Addr) (n c n' c':Nat),(binOp .eql 25 (.slice a n c) (.slice none n' c')).run Tryz.prog w=.ok (.bool a.isNone) w:=fun w a n c n' c'=>Lib.run_eql_slice_nil w _ _ a n c n' c' Tryz.underlying25
 obtain⟨i1,hi1,hy0,hy1,hy2⟩:=info_parts info_i64C
 cases a with
 | none =>
  have hn:=h0 rfl
  subst hn
  obtain rfl:xs=[]:=List.length_eq_zero_iff.1 hx
  clear hc h0
  go_enter Tryz.func51,Tryz.ntmps51
  go_wp2
  go_ret
  exact⟨_,rfl,World.ownsRow_nil _ _ _ _,Below.refl _ _⟩
 | some ad =>
  have hb2:Below w.heap.size w (w.alloc (.cells #[] 2)):=(Below.refl _ _).alloc (Nat.le_refl _) _
  have hR2:=emptyC w 2
  have hc2:∀ j u,xs[j]?=some u->(w.alloc (.cells #[] 2)).cell? (ad.add j)=some u:=fun j u hj=>(hb2.cell (p:=ad.add j) (hc ad rfl j u hj).1).trans (hc ad rfl j u hj).2
  clear hc
  go_enter Tryz.func51,Tryz.ntmps51
  go_wp2_with (at_builtin;refine wpList_append_ownD _ rfl _ _ 25 rfl w.heap.size 2 i1 _ 1 8 Tryz.underlying25 hi1 hy0 hy1 hy2 rfl (by decide) _ _ _ rfl hR2 ad n c xs rfl (by omega) hc2 h1 (by unfold maxLen;omega) (by omega) hb2.size ?_;intro v' w5 hown' hgr' hat';rw[Nat.zero_add,List.nil_append] at hown')
  have hb3:=hb2.grown hgr' hb2.size (fun g e=>(hR2.lt g e).1)
  go_ret
  exact⟨v',rfl,hown',hb3⟩
theorem ints_one (xs:List Int):∀ u ∈ rowsOf intCells xs,u.oneCell'=true:=by
 intro u hu
 obtain⟨s,_,hu⟩:=List.mem_flatMap.1 hu
 simp[intCells] at hu
 subst hu;rfl
theorem rowsAt_cells {α:Type} {w:World} {A B:Nat} {cs:α->List Value} {fit:α->Prop} {d:α} {a:Option Addr} {n c:Nat} {xs:List α} (hc1:∀ x,(cs x).length=1) (h:RowsAt w A B 1 cs fit d a n c xs) (hB:B<=w.heap.size):(rowsOf cs xs).length=n∧(a=none->n=0)∧∀ ad,a=some ad->∀ j u,(rowsOf cs xs)[j]?=some u->(ad.add j).block<w.heap.size∧w.cell? (ad.add j)=some u:=by
 obtain⟨h1,h2,h3,h4,h5⟩:=h
 have hl:(rowsOf cs xs).length=n:=by rw[rowsOf_length hc1];omega
 refine⟨hl,fun e=>?_,fun ad e j u hj=>?_⟩
 ·rcases Nat.eq_zero_or_pos n with h | h
  ·exact h
  ·obtain⟨b,off,e2,_⟩:=h5 h
   rw[e] at e2;cases e2
 ·have hj2:=(List.getElem?_eq_some_iff.1 hj).1
  rw[hl] at hj2
  obtain⟨b,off,e2,hb,hc⟩:=h5 (by omega)
  rw[e] at e2
  simp only[Option.some.injEq] at e2
  subst e2
  have e3:(⟨b,off,none⟩:Addr).add j=⟨b,off+j,none⟩:=by simp[Addr.add]
  rw[e3]
  refine⟨by show b<_;omega,?_⟩
  have h9:=hc j hj2 0 (by omega)
  have h8:=rowsOf_get hc1 d xs j 0 (by omega) (by omega)
  simp only[Nat.mul_one,Nat.add_zero] at h9 h8
  rw[h9,<-h8,hj]
theorem addr_add (b o k:Nat):(⟨b,o,none⟩:Addr).add k=⟨b,o+k,none⟩:=by simp[Addr.add]
def NodeLen (x:TN):Prop:=x.keys.length<=1048576∧x.vals.length<=1048576∧x.over.length<=1048576∧x.kids.length<=1048576
structure CpSt (w wr:World) (N:Nat) (a:Option Addr) (n c j:Nat) (oa:Option Addr) (oc:Nat) (ts:List TN) (us:Nat->Nat->Value):Prop where
 b0:wr.heap[N]?=some (.cells #[.slice a n c] 29)
 b1:wr.heap[N+1]?=some (.cells #[.slice none 0 0] 29)
 b2:wr.heap[N+2]?=some (.cells #[.slice oa j oc] 29)
 own:OwnT wr (N+3) (.slice oa j oc) ((ts.take j).map TN.nd) us
 bel:Below N w wr
def topT (ts:List TN):Option T:=match gr ts (ts.length+1) 0 (fun _=>false) with
 | some (t,nx,_)=>if ts.length<=1000∧nx=ts.length∧t.slots.all (fun s=>kyB s.1)=true∧ascB (t.slots.map (fun s=>s.1))=true then some t else none
 | none=>none
theorem topT_no {ts:List TN} (h:¬ ImplOk ts):topT ts=none:=by
 unfold topT
 split
 ·rename_i t nx met hg
  split
  ·rename_i hc
   obtain⟨h1,rfl,h3,h4⟩:=hc
   exact absurd ⟨h1,t,met,hg,h3,h4⟩ h
  ·rfl
 ·rfl
theorem topT_yes {ts:List TN} {t:T} {met:Int->Bool} (h:ImplOk ts) (hg:gr ts (ts.length+1) 0 (fun _=>false)=some (t,ts.length,met)):topT ts=some t:=by
 obtain⟨h1,t2,m2,e,h3,h4⟩:=h
 rw[hg] at e
 simp only[Option.some.injEq,Prod.mk.injEq] at e
 obtain⟨rfl,_,rfl⟩:=e
 unfold topT
 rw[hg]
 simp only[h1,h3,h4,and_self,if_true]
theorem topT_good {ts:List TN} {t:T} (h:topT ts=some t):ImplOk ts∧(∃ met,gr ts (ts.length+1) 0 (fun _=>false)=some (t,ts.length,met))∧t.good true=true∧Shape t∧0<=t.ht∧t.nodes<=1000∧SortT t.slots∧t.slots.all (fun s=>kyB s.1)=true:=by
 by_cases hi:ImplOk ts
 ·obtain⟨h1,t2,m2,e,h3,h4⟩:=hi
  have:=topT_yes ⟨h1,t2,m2,e,h3,h4⟩ e
  rw[h] at this
  simp only[Option.some.injEq] at this
  subst this
  obtain⟨gs1,gs2,gs3,gs4,gs5,gs6,gs7,gs8⟩:=gr_some ts _ 0 _ t _ _ (Nat.zero_le _) e
  exact⟨⟨h1,t,m2,e,h3,h4⟩,⟨m2,e⟩,gs5,gs3,gs6,by have:=gs4.1;omega,sort_of_asc h4,h3⟩
 ·rw[topT_no hi] at h;cases h
def putR (ts:List TN) (key val:ByteArray):Bool × List TN:=match topT ts with
 | none=>(false,ts)
 | some t=>if kyB key=true∧val.size<=400∧(rootP key val t).nodes<=1000 then (true,(rootP key val t).flat 0) else (false,ts)
def TreeAns (w:World) (r:Bool × List TN) (e:Ending) (w':World):Prop:=∃ oa oc us,e=.returned (.agg #[.bool r.1,.slice oa r.2.length oc])∧OwnT w' w.heap.size (.slice oa r.2.length oc) (r.2.map TN.nd) us∧Below w.heap.size w w'
end Go.Proofs.YtkhglgalbifcnaaGreat
