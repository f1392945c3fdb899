import Derived.Test.YtkhglgalbifcnaaGreatGAA
import Derived.Test.YtkhglgalbifcnaaGreatGAB
import Derived.Test.YtkhglgalbifcnaaGreatGAV
import Derived.Test.YtkhglgalbifcnaaGreatGBL
import Derived.Test.YtkhglgalbifcnaaGreatTpr
import Derived.Deep.RegionHeld3
namespace Go.Proofs.YtkhglgalbifcnaaGreat
set_option maxHeartbeats 4000000
open Go.RowKit
set_option linter.unusedVariables false
set_option linter.unusedSimpArgs false
set_option maxRecDepth 100000
def upd (f:Nat->Value) (q:Nat) (x:Value):Nat->Value:=fun r=>if r=q then x else f r
structure PG where
 c:Nat->Value
 ks:List PK
 es:List PE
def dG:PG:=⟨fun _=>.bool false,[],[]⟩
def pgRow (p:PG) (u:Nat->Value):List Value:=[p.c 0,p.c 1,p.c 2,p.c 3,p.c 4,u 0,u 1,p.c 7,p.c 8]
def rowG (ps:List PG) (us:Nat->Nat->Value):List Value:=((List.range ps.length).map (fun i=>pgRow (ps.getD i dG) (us i))).flatten
theorem rowG_get (ps:List PG) (us:Nat->Nat->Value) {i j:Nat} (hi:i<ps.length) (hj:j<9):(rowG ps us)[i*9+j]?=(pgRow (ps.getD i dG) (us i))[j]?:=by
 unfold rowG
 refine flatten_get (m:=9) (fun i cs h=>?_) i _ ?_ j hj
 ·rw[List.getElem?_map] at h
  obtain⟨q,_,rfl⟩:=Option.map_eq_some_iff.1 h
  rfl
 ·simp[List.getElem?_range,hi]
theorem rowG_len (ps:List PG) (us:Nat->Nat->Value):(rowG ps us).length=ps.length*9:=by
 unfold rowG
 rw[List.length_flatten,List.map_map]
 have:(List.map (List.length ∘ fun i=>pgRow (ps.getD i dG) (us i)) (List.range ps.length))=List.replicate ps.length 9:=by
  rw[List.eq_replicate_iff]
  refine⟨by simp,fun x hx=>?_⟩
  obtain⟨i,_,rfl⟩:=List.mem_map.1 hx
  rfl
 rw[this,List.sum_replicate_nat]
structure OwnG (w:World) (base:Nat) (v:Value) (ps:List PG) (us:Nat->Nat->Value):Prop where
 row:w.ownsRow base 93 9 v ps.length (rowG ps us)
 kid:∀ i,i<ps.length->w.ownsRow base 96 2 (us i 0) (ps.getD i dG).ks.length (rowsOf kidCells (ps.getD i dG).ks)
 ent:∀ i,i<ps.length->w.ownsRow base 98 4 (us i 1) (ps.getD i dG).es.length (rowsOf entCells (ps.getD i dG).es)
 ap:∀ i j r,i<ps.length->j<ps.length->r<2->i≠j->∀ g,(us i r).ownBlock=some g->(us j r).ownBlock≠some g
def BlkG (v:Value) (n:Nat) (us:Nat->Nat->Value) (g:Nat):Prop:=v.ownBlock=some g∨∃ i r,i<n∧r<2∧(us i r).ownBlock=some g
def NK' (w:World) (g:Nat):Prop:=∃ (cs:Array Value) (e:Nat),w.heap[g]?=some (.cells cs e)∧e≠93
theorem rows_neG {w:World} {b1 b2 e1 e2 s1 s2 n1 n2:Nat} {u v:Value} {xs ys:List Value} (h:w.ownsRow b1 e1 s1 u n1 xs) (k:w.ownsRow b2 e2 s2 v n2 ys) (hne:e1≠e2) {g:Nat} (hu:u.ownBlock=some g):v.ownBlock≠some g:=by
 obtain⟨cur,hk⟩:=own_ty h hu
 exact own_ne_ty k hk (fun e=>hne e.symm)
theorem OwnG.list {w:World} {base:Nat} {v:Value} {ps:List PG} {us:Nat->Nat->Value} (h:OwnG w base v ps us) {i r g:Nat} (hi:i<ps.length) (hr:r<2) (hg:(us i r).ownBlock=some g):base<=g∧g<w.heap.size∧NK' w g:=by
 have hc:r=0∨r=1:=by omega
 rcases hc with rfl | rfl
 ·obtain⟨cur,hk⟩:=own_ty (h.kid i hi) hg
  exact⟨((h.kid i hi).lt g hg).1,((h.kid i hi).lt g hg).2,cur,_,hk,by decide⟩
 ·obtain⟨cur,hk⟩:=own_ty (h.ent i hi) hg
  exact⟨((h.ent i hi).lt g hg).1,((h.ent i hi).lt g hg).2,cur,_,hk,by decide⟩
theorem OwnG.blk {w:World} {base:Nat} {v:Value} {ps:List PG} {us:Nat->Nat->Value} (h:OwnG w base v ps us) {g:Nat} (hg:BlkG v ps.length us g):base<=g∧g<w.heap.size:=by
 rcases hg with hg | ⟨i,r,hi,hr,hg⟩
 ·exact h.row.lt g hg
 ·exact⟨(h.list hi hr hg).1,(h.list hi hr hg).2.1⟩
theorem OwnG.fr {S:Nat->Prop} {w w':World} {base:Nat} {v:Value} {ps:List PG} {us:Nat->Nat->Value} (h:OwnG w base v ps us) (hf:Fr S w w') (hS:∀ g,BlkG v ps.length us g->¬ S g):OwnG w' base v ps us :=
 ⟨owns_fr h.row hf (fun g hg=>hS g (.inl hg)),fun i hi=>owns_fr (h.kid i hi) hf (fun g hg=>hS g (.inr ⟨i,0,hi,by omega,hg⟩)),fun i hi=>owns_fr (h.ent i hi) hf (fun g hg=>hS g (.inr ⟨i,1,hi,by omega,hg⟩)),h.ap⟩
theorem OwnG.below {w w':World} {base:Nat} {v:Value} {ps:List PG} {us:Nat->Nat->Value} (h:OwnG w base v ps us) (hb:Below w.heap.size w w'):OwnG w' base v ps us:=h.fr (S:=fun _=>False) (Fr.of_below hb) (fun _ _ e=>e)
theorem OwnG.cell {w:World} {base g n c:Nat} {ps:List PG} {us:Nat->Nat->Value} (h:OwnG w base (.slice (some ⟨g,0,none⟩) n c) ps us) {i j:Nat} (hi:i<ps.length) (hj:j<9):w.cell? ⟨g,i*9+j,none⟩=(pgRow (ps.getD i dG) (us i))[j]?:=by
 have hn:n=ps.length:=by
  rcases h.row.2 with ⟨h',_⟩ | ⟨g',cap',cur,h',_⟩
  ·simp at h'
  ·simp at h';omega
 have hr:=h.row
 subst hn
 rw[hr.cellAt (i*9+j) (by omega)]
 exact rowG_get ps us hi hj
theorem OwnG.thaw {w:World} {base g n c:Nat} {ps:List PG} {us:Nat->Nat->Value} (h:OwnG w base (.slice (some ⟨g,0,none⟩) n c) ps us) (j:Nat):w.frozen? ⟨g,j,none⟩=false:=by
 have hn:n=ps.length:=by
  rcases h.row.2 with ⟨h',_⟩ | ⟨g',cap',cur,h',_⟩
  ·simp at h'
  ·simp at h';omega
 have hr:=h.row
 subst hn
 exact hr.frozenAt j
theorem getD_setG (l:List PG) (x:PG) (i j:Nat) (hi:i<l.length):(l.set i x).getD j dG=if j=i then x else l.getD j dG:=by
 by_cases h:j=i
 ·subst h;rw[if_pos rfl];simp[List.getD,hi]
 ·rw[if_neg h];simp[List.getD,List.getElem?_set_ne (Ne.symm h)]
theorem set_selfG {S:List PG} {j:Nat} {M:PG} (hj:j<S.length) (h:S.getD j dG=M):S.set j M=S:=by
 rw[<-h]
 apply List.ext_getElem?
 intro i
 by_cases hi:i=j
 ·subst hi;rw[List.getElem?_set_self hj];simp[List.getD,hj]
 ·rw[List.getElem?_set_ne (Ne.symm hi)]
theorem OwnG.put {w:World} {base g n c:Nat} {S:List PG} {M:PG} {us:Nat->Nat->Value} {j:Nat} (h:OwnG w base (.slice (some ⟨g,0,none⟩) n c) (S.set j M) us) (hj:j<S.length) (q:Nat) (hq:q<5∨q=7∨q=8) (x:Value) :
  OwnG (w.setCell ⟨g,j*9+q,none⟩ x) base (.slice (some ⟨g,0,none⟩) n c) (S.set j ⟨upd M.c q x,M.ks,M.es⟩) us:=by
 have hfr:=fr_setT w g (j*9+q) x
 have hn:n=(S.set j M).length:=by
  rcases h.row.2 with ⟨h',_⟩ | ⟨g',cap',cur,h',_⟩
  ·simp at h'
  ·simp at h';simp;omega
 have hrow:=h.row
 rw[<-hn] at hrow
 have r1:=(hrow.stored (j*9+q) x).1
 have hl:(S.set j ⟨upd M.c q x,M.ks,M.es⟩).length=(S.set j M).length:=by simp
 have hls:(S.set j M).length=S.length:=by simp
 refine⟨?_,fun i hi=>?_,fun i hi=>?_,fun i k r hi hk=>h.ap i k r (by omega) (by omega)⟩
 ·have hx:(rowG (S.set j M) us).set (j*9+q) x=rowG (S.set j ⟨upd M.c q x,M.ks,M.es⟩) us:=by
   refine List.ext_getElem? (fun t=>?_)
   by_cases ht:t<S.length*9
   ·have hi:t / 9<S.length:=by omega
    have hr:t % 9<9:=by omega
    have e:=rowG_get (S.set j ⟨upd M.c q x,M.ks,M.es⟩) us (i:=t / 9) (j:=t % 9) (by omega) hr
    have e2:=rowG_get (S.set j M) us (i:=t / 9) (j:=t % 9) (by omega) hr
    rw[show t / 9*9+t % 9=t by omega] at e e2
    rw[e,getD_setG _ _ _ _ hj]
    rw[getD_setG _ _ _ _ hj] at e2
    by_cases hij:t / 9=j
    ·rw[if_pos hij]
     rw[if_pos hij] at e2
     by_cases htq:t % 9=q
     ·have hte:t=j*9+q:=by omega
      rw[hte,List.getElem?_set_self (by rw[rowG_len];omega),<-hte,htq]
      have hc:q=0∨q=1∨q=2∨q=3∨q=4∨q=7∨q=8:=by omega
      rcases hc with h | h | h | h | h | h | h<;>subst h<;>rfl
     ·rw[List.getElem?_set_ne (by omega),e2]
      have h9:t % 9=0∨t % 9=1∨t % 9=2∨t % 9=3∨t % 9=4∨t % 9=5∨t % 9=6∨t % 9=7∨t % 9=8:=by omega
      rcases h9 with h | h | h | h | h | h | h | h | h<;>rw[h] at htq ⊢<;>simp[pgRow,upd,htq]
    ·rw[if_neg hij]
     rw[if_neg hij] at e2
     rw[List.getElem?_set_ne (by omega),e2]
   ·rw[List.getElem?_eq_none (by rw[List.length_set,rowG_len];omega),List.getElem?_eq_none (by rw[rowG_len];omega)]
  rw[hl,<-hx,<-hn]
  exact r1
 ·have hi2:i<(S.set j M).length:=by omega
  have e:((S.set j ⟨upd M.c q x,M.ks,M.es⟩).getD i dG).ks=((S.set j M).getD i dG).ks:=by
   rw[getD_setG _ _ _ _ hj,getD_setG _ _ _ _ hj]
   split<;>rfl
  rw[e]
  exact owns_fr (h.kid i hi2) hfr (fun b hb e2=>by rw[e2] at hb;exact rows_neG (h.kid i hi2) h.row (by decide) hb rfl)
 ·have hi2:i<(S.set j M).length:=by omega
  have e:((S.set j ⟨upd M.c q x,M.ks,M.es⟩).getD i dG).es=((S.set j M).getD i dG).es:=by
   rw[getD_setG _ _ _ _ hj,getD_setG _ _ _ _ hj]
   split<;>rfl
  rw[e]
  exact owns_fr (h.ent i hi2) hfr (fun b hb e2=>by rw[e2] at hb;exact rows_neG (h.ent i hi2) h.row (by decide) hb rfl)
theorem rowG_lists {S:List PG} {M N:PG} {us:Nat->Nat->Value} {j:Nat} (hj:j<S.length) (h:M.c=N.c):rowG (S.set j M) us=rowG (S.set j N) us:=by
 unfold rowG
 rw[List.length_set,List.length_set]
 congr 1
 apply List.map_congr_left
 intro i hi
 rw[getD_setG _ _ _ _ hj,getD_setG _ _ _ _ hj]
 split
 ·unfold pgRow;rw[h]
 ·rfl
theorem OwnG.kids {w w':World} {base:Nat} {v:Value} {S:List PG} {M:PG} {us:Nat->Nat->Value} {j:Nat} (h:OwnG w base v (S.set j M) us) (hj:j<S.length) {zs:List PK} (hr:w'.ownsRow base 96 2 (us j 0) zs.length (rowsOf kidCells zs)) (hf:Fr (fun b=>(us j 0).ownBlock=some b) w w'):OwnG w' base v (S.set j ⟨M.c,zs,M.es⟩) us:=by
 have hl:(S.set j M).length=S.length:=by simp
 have hl2:(S.set j ⟨M.c,zs,M.es⟩).length=S.length:=by simp
 have hjm:j<(S.set j M).length:=by omega
 have hkj:=h.kid j hjm
 refine⟨?_,fun i hi=>?_,fun i hi=>?_,fun i k r hi hk=>h.ap i k r (by omega) (by omega)⟩
 ·rw[hl2,rowG_lists (M:=⟨M.c,zs,M.es⟩) (N:=M) hj rfl]
  have:=h.row
  rw[hl] at this
  exact owns_fr this hf (fun g e e2=>rows_neG hkj h.row (by decide) e2 e)
 ·rw[getD_setG _ _ _ _ hj]
  by_cases hij:i=j
  ·rw[if_pos hij,hij];exact hr
  ·have h1:=h.kid i (by omega)
   rw[getD_setG _ _ _ _ hj,if_neg hij] at h1
   rw[if_neg hij]
   exact owns_fr h1 hf (fun g e e2=>h.ap i j 0 (by omega) (by omega) (by omega) hij g e e2)
 ·have h1:=h.ent i (by omega)
  have e:((S.set j ⟨M.c,zs,M.es⟩).getD i dG).es=((S.set j M).getD i dG).es:=by
   rw[getD_setG _ _ _ _ hj,getD_setG _ _ _ _ hj]
   split<;>rfl
  rw[e]
  exact owns_fr h1 hf (fun g e e2=>rows_neG hkj h1 (by decide) e2 e)
theorem OwnG.ents {w w':World} {base:Nat} {v:Value} {S:List PG} {M:PG} {us:Nat->Nat->Value} {j:Nat} (h:OwnG w base v (S.set j M) us) (hj:j<S.length) {zs:List PE} (hr:w'.ownsRow base 98 4 (us j 1) zs.length (rowsOf entCells zs)) (hf:Fr (fun b=>(us j 1).ownBlock=some b) w w'):OwnG w' base v (S.set j ⟨M.c,M.ks,zs⟩) us:=by
 have hl:(S.set j M).length=S.length:=by simp
 have hl2:(S.set j ⟨M.c,M.ks,zs⟩).length=S.length:=by simp
 have hjm:j<(S.set j M).length:=by omega
 have hkj:=h.ent j hjm
 refine⟨?_,fun i hi=>?_,fun i hi=>?_,fun i k r hi hk=>h.ap i k r (by omega) (by omega)⟩
 ·rw[hl2,rowG_lists (M:=⟨M.c,M.ks,zs⟩) (N:=M) hj rfl]
  have:=h.row
  rw[hl] at this
  exact owns_fr this hf (fun g e e2=>rows_neG hkj h.row (by decide) e2 e)
 ·have h1:=h.kid i (by omega)
  have e:((S.set j ⟨M.c,M.ks,zs⟩).getD i dG).ks=((S.set j M).getD i dG).ks:=by
   rw[getD_setG _ _ _ _ hj,getD_setG _ _ _ _ hj]
   split<;>rfl
  rw[e]
  exact owns_fr h1 hf (fun g e e2=>rows_neG hkj h1 (by decide) e2 e)
 ·rw[getD_setG _ _ _ _ hj]
  by_cases hij:i=j
  ·rw[if_pos hij,hij];exact hr
  ·have h1:=h.ent i (by omega)
   rw[getD_setG _ _ _ _ hj,if_neg hij] at h1
   rw[if_neg hij]
   exact owns_fr h1 hf (fun g e e2=>h.ap i j 1 (by omega) (by omega) (by omega) hij g e e2)
def gLen (p:PG):Nat:=7+2*p.ks.length+4*p.es.length
def mkG (k:Nat) (p:PG):PG:=⟨upd (upd (upd (upd (upd (upd (upd p.c 0 (.int .i64 (k:Int))) 1 (.int .i64 ((k:Int)+1))) 2 (.int .i64 ((k:Int)+1+1))) 3 (.int .i64 ((k:Int)+1+1+1))) 4 (.int .i64 ((k:Int)+1+1+1+1))) 7 (.int .i64 ((k+5+2*p.ks.length+4*p.es.length:Nat):Int))) 8 (.string (mkS (k+5+2*p.ks.length+4*p.es.length+1))),markK (k+5) p.ks.length,markE (k+5+2*p.ks.length) p.es.length⟩
def mkGs:Nat->List PG->List PG
 | _,[]=>[]
 | k,n::r=>mkG k n::mkGs (k+gLen n) r
def kG:Nat->List PG->Nat
 | k,[]=>k
 | k,n::r=>kG (k+gLen n) r
theorem kG_snoc (k:Nat) (l:List PG) (f:PG):kG k (l++[f])=kG k l+gLen f:=by
 induction l generalizing k with
 | nil=>rfl
 | cons a r ih=>simp only[List.cons_append,kG];exact ih _
theorem mkGs_snoc (k:Nat) (l:List PG) (f:PG):mkGs k (l++[f])=mkGs k l++[mkG (kG k l) f]:=by
 induction l generalizing k with
 | nil=>rfl
 | cons a r ih=>simp only[List.cons_append,mkGs,kG];rw[ih]
theorem mkGs_length (k:Nat) (l:List PG):(mkGs k l).length=l.length:=by
 induction l generalizing k with
 | nil=>rfl
 | cons a r ih=>simp only[mkGs,List.length_cons,ih]
theorem kG_le (k:Nat) (l:List PG):k+l.length<=kG k l:=by
 induction l generalizing k with
 | nil=>simp[kG]
 | cons a r ih=>have:=ih (k+gLen a);simp only[kG,List.length_cons,gLen] at this ⊢;omega
theorem kG_append (k:Nat) (a b:List PG):kG k (a++b)=kG (kG k a) b:=by
 induction a generalizing k with
 | nil=>rfl
 | cons x r ih=>simp only[List.cons_append,kG];exact ih _
def stG (k:Nat) (ns:List PG) (j:Nat):List PG:=mkGs k (ns.take j)++ns.drop j
theorem stG_length (k:Nat) (ns:List PG) (j:Nat) (h:j<=ns.length):(stG k ns j).length=ns.length:=by
 simp[stG,mkGs_length];omega
theorem stG_get (k:Nat) (ns:List PG) (j:Nat) (h:j<ns.length) (d:PG):(stG k ns j).getD j d=ns[j]:=by
 have h1:(mkGs k (ns.take j)).length=j:=by rw[mkGs_length,List.length_take];omega
 simp[stG,List.getD,List.getElem?_append_right,h1,h]
theorem stG_succ (k:Nat) (ns:List PG) (j:Nat) (h:j<ns.length):stG k ns (j+1)=(stG k ns j).set j (mkG (kG k (ns.take j)) ns[j]):=by
 have h1:(mkGs k (ns.take j)).length=j:=by rw[mkGs_length,List.length_take];omega
 unfold stG
 rw[List.set_append_right _ _ (by omega),h1,Nat.sub_self,List.drop_eq_getElem_cons h,List.set_cons_zero,List.take_succ_eq_append_getElem h,mkGs_snoc]
 simp
theorem kG_take (k:Nat) (ns:List PG) (j:Nat) (h:j<ns.length):kG k (ns.take (j+1))=kG k (ns.take j)+gLen ns[j]:=by
 rw[List.take_succ_eq_append_getElem h,kG_snoc]
theorem kG_take_le (k:Nat) (ns:List PG) (j:Nat):kG k (ns.take j)<=kG k ns:=by
 have h1:kG k ns=kG (kG k (ns.take j)) (ns.drop j):=by rw[<-kG_append,List.take_append_drop]
 have:=kG_le (kG k (ns.take j)) (ns.drop j)
 omega
theorem mkGs_get (k:Nat) (ns:List PG) (j:Nat) (h:j<ns.length) (d:PG):(mkGs k ns).getD j d=mkG (kG k (ns.take j)) ns[j]:=by
 induction ns generalizing k j with
 | nil=>simp at h
 | cons a r ih =>
  cases j with
  | zero=>simp[mkGs,kG]
  | succ j =>
   have h':j<r.length:=by simpa using h
   simpa[mkGs,kG] using ih (k+gLen a) j h'
theorem markPageS_own (a:Option Addr) (n c k base:Nat) (ps:List PG) (us:Nat->Nat->Value) (w:World) (h:OwnG w base (.slice a n c) ps us) (hn:n=ps.length) (hk:kG k ps<=1000000000) :
  Calls Tryz.prog 32 #[.slice a n c,.int .i64 k] w fun e w'=>e=.returned (.int .i64 ((kG k ps:Nat):Int))∧OwnG w' base (.slice a n c) (mkGs k ps) us∧Fr (BlkG (.slice a n c) ps.length us) w w':=by
 have hnb:n<=1000000000:=by have:=kG_le k ps;omega
 replace hn:Hid (n=ps.length):=hn
 go_enter Tryz.func32,Tryz.ntmps32
 go_wp2_with fail
 go_loopw [1,5] (fun kv i wr=>∃ (j:Nat),j<=n∧i=.int .i64 j∧kv=.int .i64 ((kG k (ps.take j):Nat):Int)∧Hid (OwnG wr base (.slice a n c) (stG k ps j) us∧Fr (BlkG (.slice a n c) ps.length us) w wr)) (fun _ i _=>n - (intOf i).toNat)
 case atStart=>exact⟨0,Nat.zero_le _,rfl,by simp[kG],by simpa[stG,mkGs] using h,Fr.refl _ _⟩
 case round =>
  clear h
  obtain⟨j,hj,rfl,rfl,HX⟩:=hrel
  by_cases hlt:j<n
  ·obtain⟨g,rfl⟩:∃ g,a=some ⟨g,0,none⟩:=by
    rcases HX.out.1.row.2 with ⟨h0,h1⟩ | ⟨g,cap,cur,h0,_⟩
    ·have:=hn.out;rw[stG_length _ _ _ (by omega)] at h1;omega
    ·injection h0 with h1;exact⟨g,h1⟩
   have hjf:j<ps.length:=by have:=hn.out;omega
   have hsl:=stG_length k ps j (by omega)
   have hjs:j<(stG k ps j).length:=by omega
   have HSU:Hid (stG k ps (j+1)=(stG k ps j).set j (mkG (kG k (ps.take j)) ps[j])):=stG_succ k ps j hjf
   have hget:=stG_get k ps j hjf dG
   have HK:Hid (kG k (ps.take (j+1))=kG k (ps.take j)+gLen ps[j]):=kG_take k ps j hjf
   have hKle:=kG_take_le k ps (j+1)
   obtain⟨nd,hnd⟩:∃ nd,nd=ps[j]:=⟨_,rfl⟩
   rw[<-hnd] at HSU hget HK
   obtain⟨kk,hkk⟩:∃ kk,kk=kG k (ps.take j):=⟨_,rfl⟩
   rw[<-hkk] at HSU HK ⊢
   have hkb:kk+7+2*nd.ks.length+4*nd.es.length<=1000000000:=by have h1:=HK.out;unfold gLen at h1;omega
   clear hnd hkk hKle hsl
   have hO:=HX.out.1
   rw[<-set_selfG hjs hget] at hO
   have O5:=Hid.i (((((hO.put hjs 0 (by omega) (.int .i64 (kk:Int))).put hjs 1 (by omega) (.int .i64 ((kk:Int)+1))).put hjs 2 (by omega) (.int .i64 ((kk:Int)+1+1))).put hjs 3 (by omega) (.int .i64 ((kk:Int)+1+1+1))).put hjs 4 (by omega) (.int .i64 ((kk:Int)+1+1+1+1)))
   have F5:=Hid.i (HX.out.2.trans ((((((fr_setT wr g (j*9+0) (.int .i64 (kk:Int))).trans (fr_setT _ g (j*9+1) (.int .i64 ((kk:Int)+1)))).trans (fr_setT _ g (j*9+2) (.int .i64 ((kk:Int)+1+1)))).trans (fr_setT _ g (j*9+3) (.int .i64 ((kk:Int)+1+1+1)))).trans (fr_setT _ g (j*9+4) (.int .i64 ((kk:Int)+1+1+1+1)))).weak (T:=BlkG (.slice (some ⟨g,0,none⟩) n c) ps.length us) (fun b e=>.inl (by rw[e];rfl))))
   have hcl:=fun r hr=>HX.out.1.cell (i:=j) (j:=r) hjs hr
   rw[hget] at hcl
   have hth:=HX.out.1.thaw
   have u0:wr.cell? ⟨g,j*9,none⟩=some (nd.c 0):=hcl 0 (by omega)
   have u1:wr.cell? ⟨g,j*9+1,none⟩=some (nd.c 1):=hcl 1 (by omega)
   have u2:wr.cell? ⟨g,j*9+2,none⟩=some (nd.c 2):=hcl 2 (by omega)
   have u3:wr.cell? ⟨g,j*9+3,none⟩=some (nd.c 3):=hcl 3 (by omega)
   have u4:wr.cell? ⟨g,j*9+4,none⟩=some (nd.c 4):=hcl 4 (by omega)
   have hgl:g<wr.heap.size:=(HX.out.1.row.lt g rfl).2
   clear hcl HX hget hO
   go_upto_region 14 with fail
   simp only[Nat.add_zero] at O5 F5
   generalize (((((wr.setCell ⟨g,j*9,none⟩ (.int .i64 (kk:Int))).setCell ⟨g,j*9+1,none⟩ (.int .i64 ((kk:Int)+1))).setCell ⟨g,j*9+2,none⟩ (.int .i64 ((kk:Int)+1+1))).setCell ⟨g,j*9+3,none⟩ (.int .i64 ((kk:Int)+1+1+1))).setCell ⟨g,j*9+4,none⟩ (.int .i64 ((kk:Int)+1+1+1+1)))=W0 at O5 F5 ⊢
   clear u0 u1 u2 u3 u4 hgl hth
   obtain⟨k0,hk0⟩:∃ k0,k0=kk+5:=⟨_,rfl⟩
   have HK0:Hid (k0=kk+5):=hk0
   have hkb0:k0+2+2*nd.ks.length+4*nd.es.length<=1000000000:=by omega
   have hcast:(kk:Int)+1+1+1+1+1=(k0:Int):=by omega
   rw[hcast]
   clear hcast hk0
   have hjm:∀ M,j<((stG k ps j).set j M).length:=fun M=>by simpa using hjs
   have hL0:=O5.out.kid j (hjm _)
   rw[getD_setG _ _ _ _ hjs,if_pos rfl] at hL0
   obtain⟨a0,c0,hs0⟩:=ownT_shape hL0
   have x0:W0.cell? ⟨g,j*9+5,none⟩=some (.slice a0 nd.ks.length c0):=by
    have:=O5.out.cell (i:=j) (j:=5) (hjm _) (by omega)
    rw[this,getD_setG _ _ _ _ hjs,if_pos rfl]
    show some (us j 0)=_
    rw[hs0]
   have gl0:g<W0.heap.size:=(O5.out.row.lt g rfl).2
   have hc0:=markKidS_any a0 nd.ks.length c0 k0 base _ W0 (by rw[hs0] at hL0;exact hL0) (by omega)
   obtain⟨n0,hn0⟩:∃ n0,n0=nd.ks.length:=⟨_,rfl⟩
   have HN0:Hid (n0=nd.ks.length):=hn0
   rw[<-hn0] at x0 hc0 hkb0
   clear hn0
   go_wp2_with fail
   refine hc0.mono ?_
   rintro e W1 ⟨rfl,hr0,hf0⟩
   have O6:=Hid.i (O5.out.kids hjs (zs:=markK k0 n0) (by rw[markK_len,hs0,<-HN0.out];exact hr0) (by rw[hs0,<-HN0.out];exact hf0))
   have F6:Hid (Fr (BlkG (.slice (some ⟨g,0,none⟩) n c) ps.length us) w W1):=F5.out.trans (hf0.weak (fun b hb=>.inr ⟨j,0,hjf,by omega,by rw[hs0,<-HN0.out];exact hb⟩))
   obtain⟨k1,hk1⟩:∃ k1,k1=k0+2*n0:=⟨_,rfl⟩
   have HK1:Hid (k1=k0+2*n0):=hk1
   have hkb1:k1+2+4*nd.es.length<=1000000000:=by omega
   rw[<-hk1]
   clear hL0 hk1 hc0 hr0 hf0 O5 F5 x0 gl0
   have hL1:=O6.out.ent j (hjm _)
   rw[getD_setG _ _ _ _ hjs,if_pos rfl] at hL1
   obtain⟨a1,c1,hs1⟩:=ownT_shape hL1
   have x1:W1.cell? ⟨g,j*9+6,none⟩=some (.slice a1 nd.es.length c1):=by
    have:=O6.out.cell (i:=j) (j:=6) (hjm _) (by omega)
    rw[this,getD_setG _ _ _ _ hjs,if_pos rfl]
    show some (us j 1)=_
    rw[hs1]
   have gl1:g<W1.heap.size:=(O6.out.row.lt g rfl).2
   have hc1:=markEntS_any a1 nd.es.length c1 k1 base _ W1 (by rw[hs1] at hL1;exact hL1) (by omega)
   obtain⟨n1,hn1⟩:∃ n1,n1=nd.es.length:=⟨_,rfl⟩
   have HN1:Hid (n1=nd.es.length):=hn1
   rw[<-hn1] at x1 hc1 hkb1
   clear hn1
   go_wp2_with fail
   refine hc1.mono ?_
   rintro e W2 ⟨rfl,hr1,hf1⟩
   have O7:=Hid.i (O6.out.ents hjs (zs:=markE k1 n1) (by rw[markE_len,hs1,<-HN1.out];exact hr1) (by rw[hs1,<-HN1.out];exact hf1))
   have F7:Hid (Fr (BlkG (.slice (some ⟨g,0,none⟩) n c) ps.length us) w W2):=F6.out.trans (hf1.weak (fun b hb=>.inr ⟨j,1,hjf,by omega,by rw[hs1,<-HN1.out];exact hb⟩))
   obtain⟨k2,hk2⟩:∃ k2,k2=k1+4*n1:=⟨_,rfl⟩
   have HK2:Hid (k2=k1+4*n1):=hk2
   have hkb2:k2+2<=1000000000:=by omega
   rw[<-hk2]
   clear hL1 hk2 hc1 hr1 hf1 O6 F6 x1 gl1
   have u7:∃ u,W2.cell? ⟨g,j*9+7,none⟩=some u:=⟨_,O7.out.cell (i:=j) (j:=7) (hjm _) (by omega)⟩
   obtain⟨v7,u7⟩:=u7
   have f7:=O7.out.thaw (j*9+7)
   have gl2:g<W2.heap.size:=(O7.out.row.lt g rfl).2
   have O8:=Hid.i (O7.out.put hjs 7 (by omega) (.int .i64 (k2:Int)))
   have F8:=Hid.i (F7.out.trans ((fr_setT W2 g (j*9+7) (.int .i64 (k2:Int))).weak (T:=BlkG (.slice (some ⟨g,0,none⟩) n c) ps.length us) (fun b e=>.inl (by rw[e];rfl))))
   go_upto_region 18 with fail
   generalize W2.setCell ⟨g,j*9+7,none⟩ (.int .i64 (k2:Int))=W3 at O8 F8 ⊢
   clear u7 f7 gl2 O7 F7
   have hcast:(k2:Int)+1=((k2+1:Nat):Int):=by omega
   rw[hcast]
   clear hcast
   have hc2:=markText_any (k2+1) W3 (by omega)
   go_wp2_with fail
   refine hc2.mono ?_
   rintro e W4 ⟨rfl,hb4⟩
   have O9:=Hid.i (O8.out.below hb4)
   have F9:Hid (Fr (BlkG (.slice (some ⟨g,0,none⟩) n c) ps.length us) w W4):=F8.out.trans (Fr.of_below hb4)
   have u8:∃ u,W4.cell? ⟨g,j*9+8,none⟩=some u:=⟨_,O9.out.cell (i:=j) (j:=8) (hjm _) (by omega)⟩
   obtain⟨v8,u8⟩:=u8
   have f8:=O9.out.thaw (j*9+8)
   have gl4:g<W4.heap.size:=(O9.out.row.lt g rfl).2
   have OA:=Hid.i (O9.out.put hjs 8 (by omega) (.string (mkS (k2+1))))
   have FA:=Hid.i (F9.out.trans ((fr_setT W4 g (j*9+8) (.string (mkS (k2+1)))).weak (T:=BlkG (.slice (some ⟨g,0,none⟩) n c) ps.length us) (fun b e=>.inl (by rw[e];rfl))))
   have HR:Hid (OwnG (W4.setCell ⟨g,j*9+8,none⟩ (.string (mkS (k2+1)))) base (.slice (some ⟨g,0,none⟩) n c) (stG k ps (j+1)) us∧Fr (BlkG (.slice (some ⟨g,0,none⟩) n c) ps.length us) w (W4.setCell ⟨g,j*9+8,none⟩ (.string (mkS (k2+1))))):=by
    refine⟨?_,FA.out⟩
    rw[HSU.out]
    have e0:=HK0.out
    have e1:=HK1.out
    have e2:=HK2.out
    have e3:=HN0.out
    have e4:=HN1.out
    unfold mkG
    rw[<-e3,<-e4,<-e0,<-e1,<-e2]
    exact OA.out
   have HKE:Hid (kG k (ps.take (j+1))=k2+2):=by
    show _=_
    have h1:=HK.out;have h2:=HK0.out;have h3:=HK1.out;have h4:=HK2.out;have h7:=HN0.out;have h8:=HN1.out
    unfold gLen at h1
    omega
   clear O8 F8 O9 F9 OA FA HSU hc2 hb4
   go_wp2_with fail
   go_roundw
   case rel=>exact⟨j+1,by omega,by go_num,by rw[HKE.out];go_num,HR⟩
   case measure=>simp[intOf];omega
  ·have hj2:ps.take j=ps:=List.take_of_length_le (by have:=hn.out;omega)
   have hj3:stG k ps j=mkGs k ps:=by
    unfold stG
    rw[hj2,List.drop_eq_nil_of_le (by have:=hn.out;omega),List.append_nil]
   rw[hj3] at HX
   rw[hj2]
   clear hj2 hj3
   go_wp2_with fail
   go_ret
   exact⟨rfl,HX.out.1,HX.out.2⟩
theorem heldKidS_g (a:Option Addr) (n c k:Nat) (w:World) (A B:Nat) (hB:B<=w.heap.size) (h:RowsAt w A B 2 kidCells (fun _=>True) dK a n c (markK k n)) (hk:k+2*n<=1099511627776) :
  Calls Tryz.prog 64 #[.slice a n c,.int .i64 k] w fun e w'=>e=.returned (.int .i64 ((k+2*n:Nat):Int))∧Below w.heap.size w w':=by
 have hc:=h.2.2.1
 have hnc:=h.2.1
 unfold maxLen at hc
 go_enter Tryz.func64,Tryz.ntmps64
 go_wp2
 go_loopw [1,5] (fun kv i wr=>∃ j:Nat,j<=n∧i=.int .i64 j∧kv=.int .i64 ((k+2*j:Nat):Int)∧Below w.heap.size w wr) (fun _ i _=>n - (intOf i).toNat)
 case atStart=>exact⟨0,Nat.zero_le _,rfl,rfl,Below.refl _ _⟩
 case round =>
  obtain⟨j,hj,rfl,rfl,hbel⟩:=hrel
  by_cases hlt:j<n
  ·have h':=h.below (hbel.mono hB)
   obtain⟨b,off,rfl,hb,hfit,e0,e1⟩:=kids_at h' hlt
   have hs:=hbel.size
   have hbw:b<wr.heap.size:=by omega
   rw[markK_get k n j hlt] at e0 e1
   obtain⟨kj,hkj⟩:∃ kj,kj=k+2*j:=⟨_,rfl⟩
   rw[<-hkj] at e0 e1 ⊢
   have HKJ:Hid (kj=k+2*j):=hkj
   have hkb:kj<=1099511627776:=by omega
   have n1:(((kj+1:Nat):Int) != (kj:Int)+1)=false:=by simp
   clear hkj h h' hfit
   go_wp2
   go_region_held3 (fun w'=>w'.cell? ⟨b,off+j*2,none⟩=some (.string (mkS kj))) (go_keep)
    (first
     | (go_at_call 62;refine (markText_any kj wr.drew hkb).mono ?_;rintro e w1 ⟨rfl,hb1⟩;have q0:=(hb1.cell (p:=⟨b,off+j*2,none⟩) hbw).trans e0))
   have q1:=(hb1.cell (p:=⟨b,off+j*2+1,none⟩) hbw).trans e1
   have HK2:Hid (((kj:Int)+1+1)=((k+2*(j+1):Nat):Int)):=by show _=_;have:=HKJ.out;omega
   go_wp2
   go_roundw
   case rel=>exact⟨j+1,by omega,by go_num,by rw[HK2.out],(hbel.drew).trans (hb1.mono hs)⟩
   case measure=>simp[intOf];omega
  ·go_wp2
   go_ret
   have hkn:j=n:=by omega
   subst hkn
   exact⟨rfl,hbel⟩
theorem heldEntS_g (a:Option Addr) (n c k:Nat) (w:World) (A B:Nat) (hB:B<=w.heap.size) (h:RowsAt w A B 4 entCells (fun _=>True) dE a n c (markE k n)) (hk:k+4*n<=1099511627776) :
  Calls Tryz.prog 65 #[.slice a n c,.int .i64 k] w fun e w'=>e=.returned (.int .i64 ((k+4*n:Nat):Int))∧Below w.heap.size w w':=by
 have hc:=h.2.2.1
 have hnc:=h.2.1
 unfold maxLen at hc
 go_enter Tryz.func65,Tryz.ntmps65
 go_wp2
 go_loopw [1,5] (fun kv i wr=>∃ j:Nat,j<=n∧i=.int .i64 j∧kv=.int .i64 ((k+4*j:Nat):Int)∧Below w.heap.size w wr) (fun _ i _=>n - (intOf i).toNat)
 case atStart=>exact⟨0,Nat.zero_le _,rfl,rfl,Below.refl _ _⟩
 case round =>
  obtain⟨j,hj,rfl,rfl,hbel⟩:=hrel
  by_cases hlt:j<n
  ·have h':=h.below (hbel.mono hB)
   obtain⟨b,off,rfl,hb,hfit,e0,e1,e2,e3⟩:=ents_at h' hlt
   have hs:=hbel.size
   have hbw:b<wr.heap.size:=by omega
   rw[markE_get k n j hlt] at e0 e1 e2 e3
   obtain⟨kj,hkj⟩:∃ kj,kj=k+4*j:=⟨_,rfl⟩
   rw[<-hkj] at e0 e1 e2 e3 ⊢
   have HKJ:Hid (kj=k+4*j):=hkj
   have hkb:kj+4<=1099511627776:=by omega
   have hkb0:kj<=1099511627776:=by omega
   have hkb1:kj+1<=1099511627776:=by omega
   have n2:(((kj+2:Nat):Int) != (kj:Int)+1+1)=false:=by simp;omega
   have n3:(((kj+3:Nat):Int) != (kj:Int)+1+1+1)=false:=by simp;omega
   clear hkj h h' hfit
   go_wp2
   go_region_held3 (fun w'=>w'.cell? ⟨b,off+j*4,none⟩=some (.string (mkS kj))) (go_keep)
    (first
     | (go_at_call 62;refine (markText_any kj wr.drew hkb0).mono ?_;rintro e w1 ⟨rfl,hb1⟩;have q0:=(hb1.cell (p:=⟨b,off+j*4,none⟩) hbw).trans e0))
   have hbel1:=(hbel.drew).trans (hb1.mono hs)
   have hs1:=hbel1.size
   have q1:=(hb1.cell (p:=⟨b,off+j*4+1,none⟩) hbw).trans e1
   have q2:=(hb1.cell (p:=⟨b,off+j*4+2,none⟩) hbw).trans e2
   have q3:=(hb1.cell (p:=⟨b,off+j*4+3,none⟩) hbw).trans e3
   have hbw1:b<w1.heap.size:=by omega
   clear e0 e1 e2 e3 q0 hb1
   go_wp2
   go_region_held3 (fun w'=>w'.cell? ⟨b,off+j*4+1,none⟩=some (.string (mkS (kj+1)))) (go_keep)
    (first
     | (go_at_call 62;refine (markText_any (kj+1) w1.drew hkb1).mono ?_;rintro e w2 ⟨rfl,hb2⟩;have q0:=(hb2.cell (p:=⟨b,off+j*4+1,none⟩) hbw1).trans q1))
   have r2:=(hb2.cell (p:=⟨b,off+j*4+2,none⟩) hbw1).trans q2
   have r3:=(hb2.cell (p:=⟨b,off+j*4+3,none⟩) hbw1).trans q3
   have HK2:Hid (((kj:Int)+1+1+1+1)=((k+4*(j+1):Nat):Int)):=by show _=_;have:=HKJ.out;omega
   go_wp2
   go_roundw
   case rel=>exact⟨j+1,by omega,by go_num,by rw[HK2.out],(hbel1.drew).trans (hb2.mono hs1)⟩
   case measure=>simp[intOf];omega
  ·go_wp2
   go_ret
   have hkn:j=n:=by omega
   subst hkn
   exact⟨rfl,hbel⟩
theorem heldKidS_o (a:Option Addr) (n c k base:Nat) (w:World) (h:w.ownsRow base 96 2 (.slice a n c) n (rowsOf kidCells (markK k n))) (hk:k+2*n<=1099511627776) :
  Calls Tryz.prog 64 #[.slice a n c,.int .i64 k] w fun e w'=>e=.returned (.int .i64 ((k+2*n:Nat):Int))∧Below w.heap.size w w':=by
 obtain⟨a',c',e,hr⟩:=RowsAt.of_owns (fit:=fun _=>True) (d:=dK) kc2 h (markK_len k n) (fun _ _=>trivial)
 simp only[Value.slice.injEq,true_and] at e
 obtain⟨rfl,rfl⟩:=e
 exact heldKidS_g a n c k w base w.heap.size (Nat.le_refl _) hr hk
theorem heldEntS_o (a:Option Addr) (n c k base:Nat) (w:World) (h:w.ownsRow base 98 4 (.slice a n c) n (rowsOf entCells (markE k n))) (hk:k+4*n<=1099511627776) :
  Calls Tryz.prog 65 #[.slice a n c,.int .i64 k] w fun e w'=>e=.returned (.int .i64 ((k+4*n:Nat):Int))∧Below w.heap.size w w':=by
 obtain⟨a',c',e,hr⟩:=RowsAt.of_owns (fit:=fun _=>True) (d:=dE) ec4 h (markE_len k n) (fun _ _=>trivial)
 simp only[Value.slice.injEq,true_and] at e
 obtain⟨rfl,rfl⟩:=e
 exact heldEntS_g a n c k w base w.heap.size (Nat.le_refl _) hr hk
theorem heldPageS_own (a:Option Addr) (n c k base:Nat) (ps:List PG) (us:Nat->Nat->Value) (w:World) (h:OwnG w base (.slice a n c) (mkGs k ps) us) (hn:n=ps.length) (hk:kG k ps<=1000000000) :
  Calls Tryz.prog 34 #[.slice a n c,.int .i64 k] w fun e w'=>e=.returned (.int .i64 ((kG k ps:Nat):Int))∧Below w.heap.size w w':=by
 have hnb:n<=1000000000:=by have:=kG_le k ps;omega
 replace hn:Hid (n=ps.length):=hn
 have HO:Hid (∀ W,Below w.heap.size w W->OwnG W base (.slice a n c) (mkGs k ps) us):=fun W hW=>h.below hW
 clear h
 go_enter Tryz.func34,Tryz.ntmps34
 go_wp2_with fail
 go_loopw [1,5] (fun kv i wr=>∃ (j:Nat),j<=n∧i=.int .i64 j∧kv=.int .i64 ((kG k (ps.take j):Nat):Int)∧Below w.heap.size w wr) (fun _ i _=>n - (intOf i).toNat)
 case atStart=>exact⟨0,Nat.zero_le _,rfl,by simp[kG],Below.refl _ _⟩
 case round =>
  obtain⟨j,hj,rfl,rfl,B0⟩:=hrel
  by_cases hlt:j<n
  ·have hjf:j<ps.length:=by have:=hn.out;omega
   have hjm:j<(mkGs k ps).length:=by rw[mkGs_length];exact hjf
   obtain⟨g,rfl⟩:∃ g,a=some ⟨g,0,none⟩:=by
    rcases (HO.out wr B0).row.2 with ⟨h0,h1⟩ | ⟨g,cap,cur,h0,_⟩
    ·rw[mkGs_length] at h1;have:=hn.out;omega
    ·injection h0 with h1;exact⟨g,h1⟩
   have hget:=mkGs_get k ps j hjf dG
   have HK:Hid (kG k (ps.take (j+1))=kG k (ps.take j)+gLen ps[j]):=kG_take k ps j hjf
   have hKle:=kG_take_le k ps (j+1)
   obtain⟨nd,hnd⟩:∃ nd,nd=ps[j]:=⟨_,rfl⟩
   rw[<-hnd] at hget HK
   obtain⟨kk,hkk⟩:∃ kk,kk=kG k (ps.take j):=⟨_,rfl⟩
   rw[<-hkk] at hget HK ⊢
   have hkb:kk+7+2*nd.ks.length+4*nd.es.length<=1000000000:=by have h1:=HK.out;unfold gLen at h1;omega
   have HG:Hid ((mkGs k ps).getD j dG=mkG kk nd):=hget
   clear hnd hkk hKle hget
   have HC:Hid (∀ W,Below w.heap.size w W->g<W.heap.size∧(∀ r,r<9->W.cell? ⟨g,j*9+r,none⟩=(pgRow (mkG kk nd) (us j))[r]?)∧W.ownsRow base 96 2 (us j 0) nd.ks.length (rowsOf kidCells (markK (kk+5) nd.ks.length))∧W.ownsRow base 98 4 (us j 1) nd.es.length (rowsOf entCells (markE (kk+5+2*nd.ks.length) nd.es.length))):=fun W hW=>by
    have h1:=HO.out W hW
    refine⟨(h1.row.lt g rfl).2,fun r hr=>by rw[h1.cell hjm hr,HG.out],?_,?_⟩
    ·have:=h1.kid j hjm
     rw[HG.out] at this
     have e:(mkG kk nd).ks=markK (kk+5) nd.ks.length:=rfl
     rw[e,markK_len] at this
     exact this
    ·have:=h1.ent j hjm
     rw[HG.out] at this
     have e:(mkG kk nd).es=markE (kk+5+2*nd.ks.length) nd.es.length:=rfl
     rw[e,markE_len] at this
     exact this
   obtain⟨a0,c0,hs0⟩:=ownT_shape (HC.out wr B0).2.2.1
   obtain⟨a1,c1,hs1⟩:=ownT_shape (HC.out wr B0).2.2.2
   obtain⟨n0,hn0⟩:∃ x,x=nd.ks.length:=⟨_,rfl⟩
   obtain⟨n1,hn1⟩:∃ x,x=nd.es.length:=⟨_,rfl⟩
   have HKE:Hid (kG k (ps.take (j+1))=kk+7+2*n0+4*n1):=by show _=_;rw[HK.out,gLen,hn0,hn1];omega
   rw[<-hn0,<-hn1] at hkb
   rw[<-hn0] at hs0
   rw[<-hn1] at hs1
   obtain⟨k7,hk7⟩:∃ k7,k7=kk+5+2*n0+4*n1:=⟨_,rfl⟩
   have HCC:Hid (∀ W,Below w.heap.size w W->g<W.heap.size∧W.cell? ⟨g,j*9,none⟩=some (.int .i64 (kk:Int))∧W.cell? ⟨g,j*9+1,none⟩=some (.int .i64 ((kk:Int)+1))∧W.cell? ⟨g,j*9+2,none⟩=some (.int .i64 ((kk:Int)+1+1))∧W.cell? ⟨g,j*9+3,none⟩=some (.int .i64 ((kk:Int)+1+1+1))∧W.cell? ⟨g,j*9+4,none⟩=some (.int .i64 ((kk:Int)+1+1+1+1))∧W.cell? ⟨g,j*9+5,none⟩=some (.slice a0 n0 c0)∧W.cell? ⟨g,j*9+6,none⟩=some (.slice a1 n1 c1)∧W.cell? ⟨g,j*9+7,none⟩=some (.int .i64 (k7:Int))∧W.cell? ⟨g,j*9+8,none⟩=some (.string (mkS (k7+1)))):=fun W hW=>by
    obtain⟨h0,h1,_,_⟩:=HC.out W hW
    refine⟨h0,h1 0 (by omega),h1 1 (by omega),h1 2 (by omega),h1 3 (by omega),h1 4 (by omega),(h1 5 (by omega)).trans ?_,(h1 6 (by omega)).trans ?_,(h1 7 (by omega)).trans ?_,(h1 8 (by omega)).trans ?_⟩
    ·show some (us j 0)=_;rw[hs0]
    ·show some (us j 1)=_;rw[hs1]
    ·show some (Value.int .i64 ((kk+5+2*nd.ks.length+4*nd.es.length:Nat):Int))=_;rw[hk7,hn0,hn1]
    ·show some (Value.string (mkS (kk+5+2*nd.ks.length+4*nd.es.length+1)))=_;rw[hk7,hn0,hn1]
   have HL0:Hid (∀ W,Below w.heap.size w W->W.ownsRow base 96 2 (.slice a0 n0 c0) n0 (rowsOf kidCells (markK (kk+5) n0))):=fun W hW=>by
    have:=(HC.out W hW).2.2.1
    rw[<-hn0,hs0] at this
    exact this
   have HL1:Hid (∀ W,Below w.heap.size w W->W.ownsRow base 98 4 (.slice a1 n1 c1) n1 (rowsOf entCells (markE (kk+5+2*n0) n1))):=fun W hW=>by
    have:=(HC.out W hW).2.2.2
    rw[<-hn0,<-hn1,hs1] at this
    exact this
   clear HC hs0 hs1 HG hn0 hn1 HK
   obtain⟨gl,x0,x1,x2,x3,x4,x5,x6,x7,x8⟩:=HCC.out wr B0
   have q0:((kk:Int) != (kk:Int))=false:=by simp
   have q1:(((kk:Int)+1) != ((kk:Int)+1))=false:=by simp
   have q2:(((kk:Int)+1+1) != ((kk:Int)+1+1))=false:=by simp
   have q3:(((kk:Int)+1+1+1) != ((kk:Int)+1+1+1))=false:=by simp
   have q4:(((kk:Int)+1+1+1+1) != ((kk:Int)+1+1+1+1))=false:=by simp
   obtain⟨k0,hk0⟩:∃ k0,k0=kk+5:=⟨_,rfl⟩
   rw[<-hk0] at HL0 HL1 hk7
   go_upto_region 19 with fail
   rw[show (kk:Int)+1+1+1+1+1=(k0:Int) by omega]
   have hkb0:k0+2+2*n0+4*n1<=1000000000:=by omega
   have HKF:Hid (kk+7+2*n0+4*n1=k0+2+2*n0+4*n1):=by show _=_;omega
   clear hk0 q0 q1 q2 q3 q4 hkb x0 x1 x2 x3 x4
   have hc0:=heldKidS_o a0 n0 c0 k0 base wr (HL0.out wr B0) (by omega)
   obtain⟨k1,hk1⟩:∃ x,x=k0+2*n0:=⟨_,rfl⟩
   rw[<-hk1] at hc0 HL1
   have hd0:decide ((k1:Int)<0)=false:=by simp
   have hkb1:k1+2+4*n1<=1000000000:=by omega
   have hk71:k7=k1+4*n1:=by omega
   have HKG:Hid (k0+2+2*n0+4*n1=k1+2+4*n1):=by show _=_;omega
   have HK71:Hid (k7=k1+4*n1):=hk71
   have hk72:k7+2<=1000000000:=by omega
   clear hk1 hk7 hk71
   go_wp2_with fail
   refine hc0.mono ?_
   rintro e w1 ⟨rfl,hbl0⟩
   have B1:Below w.heap.size w w1:=B0.trans (hbl0.mono B0.size)
   clear hc0 hbl0 x5 x6 x7 x8 gl
   obtain⟨gl,_,_,_,_,_,x5,x6,x7,x8⟩:=HCC.out w1 B1
   have hc1:=heldEntS_o a1 n1 c1 k1 base w1 (HL1.out w1 B1) (by omega)
   rw[<-HK71.out] at hc1
   have hd1:decide ((k7:Int)<0)=false:=by simp
   go_wp2_with fail
   refine hc1.mono ?_
   rintro e w2 ⟨rfl,hbl1⟩
   have B2:Below w.heap.size w w2:=B1.trans (hbl1.mono B1.size)
   clear hc1 hbl1 x5 x6 x7 x8 gl
   obtain⟨gl,_,_,_,_,_,x5,x6,x7,x8⟩:=HCC.out w2 B2
   have q7:((k7:Int) != (k7:Int))=false:=by simp
   have hk8:k7+1<=1099511627776:=by omega
   go_upto_region 28 with fail
   rw[show (k7:Int)+1=((k7+1:Nat):Int) by omega]
   clear x5 x6 x7 q7
   go_region_held3 (fun w'=>w'.cell? ⟨g,j*9+8,none⟩=some (.string (mkS (k7+1)))) (go_keep)
    (first
     | (go_at_call 62;refine (markText_any (k7+1) w2.drew hk8).mono ?_;rintro e w3 ⟨rfl,hb3⟩;have q0:=(hb3.cell (p:=⟨g,j*9+8,none⟩) gl).trans x8))
   have B3:Below w.heap.size w w3:=(B2.drew).trans (hb3.mono B2.size)
   have HKH:Hid (kG k (ps.take (j+1))=k7+2):=by
    show _=_
    have h1:=HKE.out
    have h2:=HKF.out
    have h3:=HKG.out
    have h4:=HK71.out
    omega
   clear hb3 q0 x8
   go_wp2_with fail
   go_roundw
   case rel=>exact⟨j+1,by omega,by go_num,by rw[HKH.out];go_num,B3⟩
   case measure=>simp[intOf];omega
  ·have hj2:ps.take j=ps:=List.take_of_length_le (by have:=hn.out;omega)
   rw[hj2]
   clear hj2
   go_wp2_with fail
   go_ret
   exact⟨rfl,B0⟩
end Go.Proofs.YtkhglgalbifcnaaGreat
