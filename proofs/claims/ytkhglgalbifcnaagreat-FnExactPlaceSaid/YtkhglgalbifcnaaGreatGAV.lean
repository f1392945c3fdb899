import Derived.Test.YtkhglgalbifcnaaGreatGAB
import Derived.Test.YtkhglgalbifcnaaGreatGAL
import Derived.Test.YtkhglgalbifcnaaGreatGAU
import Derived.Deep.QuietTactic
import Derived.BigQuiet
namespace Go.Proofs.YtkhglgalbifcnaaGreat
set_option maxHeartbeats 4000000
open Go.RowKit
set_option linter.unusedVariables false
set_option linter.unusedSimpArgs false
set_option maxRecDepth 100000
theorem own_cell {α:Type} {cs:α->List Value} (hc:∀ x,(cs x).length=1) {w:World} {base e:Nat} {g n c j:Nat} {zs:List α} {d:α} {v:Value} (h:w.ownsRow base e 1 (.slice (some ⟨g,0,none⟩) n c) n (rowsOf cs zs)) (hl:zs.length=n) (hj:j<n) (hv:cs (zs.getD j d)=[v]):w.cell? ⟨g,j,none⟩=some v:=by
 have e0:=rowsOf_get hc d zs j 0 (by omega) (by omega)
 rw[Nat.mul_one,Nat.add_zero,hv] at e0
 rw[h.cellAt j (by omega),e0]
 rfl
theorem heldStringS_own (a:Option Addr) (n c k base:Nat) (w:World) (h:w.ownsRow base 9 1 (.slice a n c) n (rowsOf strCells (mkSs k n))) (hk:k+n<=1000000000) :
  Calls Tryz.prog 87 #[.slice a n c,.int .i64 k] w fun e w'=>e=.returned (.int .i64 (k+n:Nat))∧Below w.heap.size w w':=by
 have hn63:n<=1000000000:=by omega
 have H1:Hid (w.ownsRow base 9 1 (.slice a n c) n (rowsOf strCells (mkSs k n))):=h
 clear h
 go_enter Tryz.func87,Tryz.ntmps87
 go_wp2_with fail
 go_loopw [1,5] (fun kv i wr=>∃ (j:Nat),j<=n∧i=.int .i64 j∧kv=.int .i64 ((k+j:Nat):Int)∧Below w.heap.size w wr) (fun _ i _=>n - (intOf i).toNat)
 case atStart=>exact⟨0,Nat.zero_le _,rfl,rfl,Below.refl _ _⟩
 case round =>
  obtain⟨j,hj,rfl,rfl,hbel⟩:=hrel
  have hs:=hbel.size
  by_cases hlt:j<n
  ·obtain⟨g,rfl⟩:=some_of_lt H1.out (by omega)
   have hown:=owns_below H1.out hbel
   have hbl:=(hown.lt g rfl).2
   have c0:wr.cell? ⟨g,j,none⟩=some (.string (mkS (k+j))):=own_cell (d:=ByteArray.empty) sc1 hown (mkSs_len k n) hlt (by rw[mkSs_get _ _ _ hlt];rfl)
   obtain⟨kj,hkj⟩:∃ kj,k+j=kj:=⟨_,rfl⟩
   have hkb:kj+1<=1000000000:=by omega
   have HKJ:Hid (k+j=kj):=hkj
   rw[hkj] at c0 ⊢
   have hmt:=fun W=>markText_any kj W (by omega)
   have HB0:Hid (∀ w1,Below wr.heap.size wr w1->w1.cell? ⟨g,j,none⟩=some (.string (mkS kj))∧g<w1.heap.size):=fun w1 hb1=>⟨(World.cell?_of_block (w:=wr) (a:=⟨g,j,none⟩) (hb1.block g hbl)).trans c0,Nat.lt_of_lt_of_le hbl hb1.size⟩
   generalize mkS kj=ms at *
   have HMT:Hid (∀ W:World,Calls Tryz.prog 62 #[.int .i64 (kj:Int)] W fun e w'=>e=.returned (.string ms)∧Below W.heap.size W w'):=hmt
   clear hkj hmt hown
   go_upto_region 4 with fail
   go_cut [18] (fun v wx=>v=.bool false∧Below wr.heap.size wr wx)
   case first =>
    go_region_with (go_at_call 62;refine (HMT.out _).mono ?_;rintro e w1 ⟨rfl,hb1⟩;obtain⟨c9,b9⟩:=HB0.out w1 (((Below.refl _ wr).drew).trans hb1))
    all_goals
     have hb1':Below wr.heap.size wr w1:=((Below.refl _ wr).drew).trans hb1
     clear hb1
     go_wp2_with fail
     go_meet
     exact⟨by simp,hb1'⟩
   case rest =>
    obtain⟨rfl,hbx⟩:=hcut
    have hfin:=hbel.trans (hbx.mono hs)
    clear c0 hbx HB0
    go_wp2_with fail
    go_roundw
    case rel=>exact⟨j+1,by omega,by go_num,by have:=HKJ.out;rw[show k+(j+1)=kj+1 by omega];go_num,hfin⟩
    case measure=>simp[intOf];omega
  ·have hje:j=n:=by omega
   subst hje
   go_wp2_with fail
   go_ret
   exact⟨rfl,hbel⟩
theorem heldInt64S_own (a:Option Addr) (n c k base:Nat) (w:World) (h:w.ownsRow base 2 1 (.slice a n c) n (rowsOf intCells (mkIs k n))) (hk:k+n<=1000000000) :
  Calls Tryz.prog 35 #[.slice a n c,.int .i64 k] w fun e w'=>e=.returned (.int .i64 (k+n:Nat))∧Below w.heap.size w w':=by
 have hn63:n<=1000000000:=by omega
 have H1:Hid (w.ownsRow base 2 1 (.slice a n c) n (rowsOf intCells (mkIs k n))):=h
 clear h
 go_enter Tryz.func35,Tryz.ntmps35
 go_wp2_with fail
 go_loopw [1,5] (fun kv i wr=>∃ (j:Nat),j<=n∧i=.int .i64 j∧kv=.int .i64 ((k+j:Nat):Int)∧Below w.heap.size w wr) (fun _ i _=>n - (intOf i).toNat)
 case atStart=>exact⟨0,Nat.zero_le _,rfl,rfl,Below.refl _ _⟩
 case round =>
  obtain⟨j,hj,rfl,rfl,hbel⟩:=hrel
  by_cases hlt:j<n
  ·obtain⟨g,rfl⟩:=some_of_lt H1.out (by omega)
   have hown:=owns_below H1.out hbel
   have hbl:=(hown.lt g rfl).2
   have c0:wr.cell? ⟨g,j,none⟩=some (.int .i64 ((k+j:Nat):Int)):=own_cell (d:=(0:Int)) ic1 hown (mkIs_len k n) hlt (by rw[mkIs_get _ _ _ hlt];rfl)
   obtain⟨kj,hkj⟩:∃ kj,k+j=kj:=⟨_,rfl⟩
   have hkb:kj+1<=1000000000:=by omega
   have HKJ:Hid (k+j=kj):=hkj
   rw[hkj] at c0 ⊢
   clear hkj hown
   go_wp2_with fail
   go_roundw
   case rel=>exact⟨j+1,by omega,by go_num,by have:=HKJ.out;rw[show k+(j+1)=kj+1 by omega];go_num,hbel⟩
   case measure=>simp[intOf];omega
  ·have hje:j=n:=by omega
   subst hje
   go_wp2_with fail
   go_ret
   exact⟨rfl,hbel⟩
structure ND where
 leaf:Bool
 page:Int
 l:Nat->List Value
def dN:ND:=⟨false,0,fun _=>[]⟩
def ety (r:Nat):Nat:=if r<2 then 9 else 2
def hdC (n:ND) (u:Nat->Value):List Value:=[.bool n.leaf,.int .i64 n.page,u 0,u 1,u 2,u 3]
structure OwnT (w:World) (base:Nat) (v:Value) (ns:List ND) (us:Nat->Nat->Value):Prop where
 row:w.ownsRow base 103 6 v ns.length (rowsC (fun i=>hdC (ns.getD i dN) (us i)) ns.length)
 data:∀ i,i<ns.length->∀ r,r<4->w.ownsRow base (ety r) 1 (us i r) ((ns.getD i dN).l r).length ((ns.getD i dN).l r)
 apart:∀ i r j s,i<ns.length->j<ns.length->r<4->s<4->¬ (i=j∧r=s)->∀ g,(us i r).ownBlock=some g->(us j s).ownBlock≠some g
theorem hdC_len (n:ND) (u:Nat->Value):(hdC n u).length=6:=rfl
theorem ety_ne (r:Nat):ety r≠103:=by unfold ety;split<;>decide
theorem own_neT {w:World} {b1 b2:Nat} {v u:Value} {n m r:Nat} {xs ys:List Value} (h:w.ownsRow b1 103 6 v n xs) (k:w.ownsRow b2 (ety r) 1 u m ys) (g:Nat) (hu:u.ownBlock=some g):v.ownBlock≠some g:=by
 intro hv
 rcases k.2 with ⟨rfl,_⟩ | ⟨g1,cap,cur,rfl,_,hg,_⟩
 ·simp[Value.ownBlock] at hu
 ·rcases h.2 with ⟨rfl,_⟩ | ⟨g',cap',cur',rfl,_,hg',_⟩
  ·simp[Value.ownBlock] at hv
  ·simp[Value.ownBlock] at hu hv
   subst hu hv
   rw[hg] at hg'
   simp only[Option.some.injEq,Obj.cells.injEq] at hg'
   exact ety_ne r hg'.2.1
def BlkT (v:Value) (n:Nat) (us:Nat->Nat->Value) (g:Nat):Prop:=v.ownBlock=some g∨∃ i r,i<n∧r<4∧(us i r).ownBlock=some g
theorem OwnT.blk {w:World} {base:Nat} {v:Value} {ns:List ND} {us:Nat->Nat->Value} (h:OwnT w base v ns us) {g:Nat} (hg:BlkT v ns.length us g):base<=g∧g<w.heap.size:=by
 rcases hg with hg | ⟨i,r,hi,hr,hg⟩
 ·exact h.row.lt g hg
 ·exact (h.data i hi r hr).lt g hg
theorem OwnT.fr {S:Nat->Prop} {w w':World} {base:Nat} {v:Value} {ns:List ND} {us:Nat->Nat->Value} (h:OwnT w base v ns us) (hf:Fr S w w') (hS:∀ g,BlkT v ns.length us g->¬ S g):OwnT w' base v ns us :=
 ⟨owns_fr h.row hf (fun g hg=>hS g (.inl hg)),fun i hi r hr=>owns_fr (h.data i hi r hr) hf (fun g hg=>hS g (.inr ⟨i,r,hi,hr,hg⟩)),h.apart⟩
theorem OwnT.below {w w':World} {base:Nat} {v:Value} {ns:List ND} {us:Nat->Nat->Value} (h:OwnT w base v ns us) (hb:Below w.heap.size w w'):OwnT w' base v ns us:=h.fr (S:=fun _=>False) (Fr.of_below hb) (fun _ _ e=>e)
theorem own_lowerT {w:World} {b b' e size:Nat} {v:Value} {n:Nat} {xs:List Value} (h:w.ownsRow b e size v n xs) (hb:b'<=b):w.ownsRow b' e size v n xs:=by
 refine⟨h.1,?_⟩
 rcases h.2 with hn | ⟨g,cap,cur,e1,e2,e3⟩
 ·exact .inl hn
 ·exact .inr ⟨g,cap,cur,e1,Nat.le_trans hb e2,e3⟩
theorem OwnT.lower {w:World} {base b':Nat} {v:Value} {ns:List ND} {us:Nat->Nat->Value} (h:OwnT w base v ns us) (hb:b'<=base):OwnT w b' v ns us :=
 ⟨own_lowerT h.row hb,fun i hi r hr=>own_lowerT (h.data i hi r hr) hb,h.apart⟩
theorem OwnT.nil (w:World) (base:Nat) (us:Nat->Nat->Value):OwnT w base (.slice none 0 0) [] us :=
 ⟨World.ownsRow_nil _ _ _ _,fun i hi=>absurd hi (Nat.not_lt_zero _),fun i r j s hi=>absurd hi (Nat.not_lt_zero _)⟩
theorem OwnT.cell {w:World} {base g n c:Nat} {ns:List ND} {us:Nat->Nat->Value} (h:OwnT w base (.slice (some ⟨g,0,none⟩) n c) ns us) {i j:Nat} (hi:i<ns.length) (hj:j<6):w.cell? ⟨g,i*6+j,none⟩=(hdC (ns.getD i dN) (us i))[j]?:=by
 have hl:=(rowsC_get (css:=fun i=>hdC (ns.getD i dN) (us i)) (m:=ns.length) (fun i hi=>hdC_len _ _))
 rcases h.row.2 with ⟨h',_⟩ | ⟨g',cap',cur,h',_⟩
 ·simp at h'
 ·have hn:n=ns.length:=by simp at h';omega
  have hr:=h.row
  subst hn
  rw[hr.cellAt (i*6+j) (by omega)]
  exact hl.2 i j hi hj
theorem OwnT.thaw {w:World} {base g n c:Nat} {ns:List ND} {us:Nat->Nat->Value} (h:OwnT w base (.slice (some ⟨g,0,none⟩) n c) ns us) (j:Nat):w.frozen? ⟨g,j,none⟩=false:=by
 rcases h.row.2 with ⟨h',_⟩ | ⟨g',cap',cur,h',_⟩
 ·simp at h'
 ·have hn:n=ns.length:=by simp at h';omega
  have hr:=h.row
  subst hn
  exact hr.frozenAt j
theorem getD_setN {α:Type} (l:List α) (x d:α) (i j:Nat) (hi:i<l.length):(l.set i x).getD j d=if j=i then x else l.getD j d:=by
 by_cases h:j=i
 ·subst h;rw[if_pos rfl];simp[List.getD,hi]
 ·rw[if_neg h];simp[List.getD,List.getElem?_set_ne (Ne.symm h)]
theorem OwnT.head {w:World} {base g n c:Nat} {ns:List ND} {us:Nat->Nat->Value} (h:OwnT w base (.slice (some ⟨g,0,none⟩) n c) ns us) {j:Nat} (hj:j<ns.length) (lf:Bool) (p:Int) :
  OwnT ((w.setCell ⟨g,j*6,none⟩ (.bool lf)).setCell ⟨g,j*6+1,none⟩ (.int .i64 p)) base (.slice (some ⟨g,0,none⟩) n c) (ns.set j ⟨lf,p,(ns.getD j dN).l⟩) us∧Fr (fun x=>x=g) w ((w.setCell ⟨g,j*6,none⟩ (.bool lf)).setCell ⟨g,j*6+1,none⟩ (.int .i64 p)):=by
 have hfr:Fr (fun x=>x=g) w ((w.setCell ⟨g,j*6,none⟩ (.bool lf)).setCell ⟨g,j*6+1,none⟩ (.int .i64 p)):=(fr_setT w g (j*6) (.bool lf)).trans (fr_setT _ g (j*6+1) (.int .i64 p))
 have hn:n=ns.length:=by
  rcases h.row.2 with ⟨h',_⟩ | ⟨g',cap',cur,h',_⟩
  ·simp at h'
  ·simp at h';omega
 have hrow:=h.row
 subst hn
 have r1:=(hrow.stored (j*6) (.bool lf)).1
 have r2:=(r1.stored (j*6+1) (.int .i64 p)).1
 refine⟨⟨?_,?_,?_⟩,hfr⟩
 ·rw[List.length_set]
  have hx:((rowsC (fun i=>hdC (ns.getD i dN) (us i)) ns.length).set (j*6) (.bool lf)).set (j*6+1) (.int .i64 p)=rowsC (fun i=>hdC ((ns.set j ⟨lf,p,(ns.getD j dN).l⟩).getD i dN) (us i)) ns.length:=by
   have ha:=rowsC_get (css:=fun i=>hdC (ns.getD i dN) (us i)) (m:=ns.length) (fun i hi=>hdC_len _ _)
   have hb:=rowsC_get (css:=fun i=>hdC ((ns.set j ⟨lf,p,(ns.getD j dN).l⟩).getD i dN) (us i)) (m:=ns.length) (fun i hi=>hdC_len _ _)
   refine List.ext_getElem? (fun q=>?_)
   by_cases hq:q<ns.length*6
   ·have hi:q / 6<ns.length:=by omega
    have hr:q % 6<6:=by omega
    have e:=hb.2 (q / 6) (q % 6) hi hr
    have e2:=ha.2 (q / 6) (q % 6) hi hr
    rw[show q / 6*6+q % 6=q by omega] at e e2
    rw[e]
    show _=(hdC ((ns.set j ⟨lf,p,(ns.getD j dN).l⟩).getD (q / 6) dN) (us (q / 6)))[q % 6]?
    rw[getD_setN _ _ _ _ _ hj]
    by_cases hij:q / 6=j
    ·rw[if_pos hij]
     have hc:q % 6=0∨q % 6=1∨2<=q % 6:=by omega
     rcases hc with hc | hc | hc
     ·have hqe:q=j*6:=by omega
      rw[List.getElem?_set_ne (by omega),hqe,List.getElem?_set_self (by omega),<-hqe,hc]
      rfl
     ·have hqe:q=j*6+1:=by omega
      rw[hqe,List.getElem?_set_self (by rw[List.length_set];omega),<-hqe,hc]
      rfl
     ·rw[List.getElem?_set_ne (by omega),List.getElem?_set_ne (by omega),e2,hij]
      have hc2:q % 6=2∨q % 6=3∨q % 6=4∨q % 6=5:=by omega
      rcases hc2 with h | h | h | h<;>rw[h]<;>rfl
    ·rw[if_neg hij,List.getElem?_set_ne (by omega),List.getElem?_set_ne (by omega),e2]
   ·rw[List.getElem?_eq_none (by simp only[List.length_set];omega),List.getElem?_eq_none (by omega)]
  rw[<-hx]
  exact r2
 ·intro i hi r hr
  rw[List.length_set] at hi
  have e:((ns.set j ⟨lf,p,(ns.getD j dN).l⟩).getD i dN).l r=(ns.getD i dN).l r:=by
   rw[getD_setN _ _ _ _ _ hj]
   split
   ·rename_i hh;rw[hh]
   ·rfl
  rw[e]
  exact owns_fr (h.data i hi r hr) hfr (fun q hq e2=>by rw[e2] at hq;exact own_neT hrow (h.data i hi r hr) g hq rfl)
 ·intro i r k s hi hk
  rw[List.length_set] at hi hk
  exact h.apart i r k s hi hk
theorem OwnT.over {w w':World} {base:Nat} {v:Value} {ns:List ND} {us:Nat->Nat->Value} (h:OwnT w base v ns us) {j q:Nat} (hj:j<ns.length) (hq:q<4) {zs:List Value} (hz:zs.length=((ns.getD j dN).l q).length) (hr:w'.ownsRow base (ety q) 1 (us j q) zs.length zs) (hf:Fr (fun b=>some b=(us j q).ownBlock) w w') :
  OwnT w' base v (ns.set j ⟨(ns.getD j dN).leaf,(ns.getD j dN).page,fun r=>if r=q then zs else (ns.getD j dN).l r⟩) us:=by
 refine⟨?_,?_,?_⟩
 ·rw[List.length_set,rowsC_congr (css:=fun i=>hdC (ns.getD i dN) (us i)) (fun i hi=>?_)]
  ·refine owns_fr h.row hf (fun g hg e=>?_)
   exact own_neT h.row (h.data j hj q hq) g e.symm hg
  ·show hdC ((ns.set j _).getD i dN) (us i)=hdC (ns.getD i dN) (us i)
   rw[getD_setN _ _ _ _ _ hj]
   split
   ·rename_i hh;rw[hh];rfl
   ·rfl
 ·intro i hi r hr2
  rw[List.length_set] at hi
  rw[getD_setN _ _ _ _ _ hj]
  by_cases hij:i=j
  ·subst hij
   rw[if_pos rfl]
   by_cases hrq:r=q
   ·subst hrq
    simp only[if_true]
    exact hr
   ·simp only[hrq,if_false]
    exact owns_fr (h.data i hi r hr2) hf (fun g hg e=>h.apart i r i q hi hi hr2 hq (fun e=>hrq e.2) g hg e.symm)
  ·rw[if_neg hij]
   exact owns_fr (h.data i hi r hr2) hf (fun g hg e=>h.apart i r j q hi hj hr2 hq (fun e=>hij e.1) g hg e.symm)
 ·intro i r k s hi hk
  rw[List.length_set] at hi hk
  exact h.apart i r k s hi hk
def ndLen (n:ND):Nat:=2+(n.l 0).length+(n.l 1).length+(n.l 2).length+(n.l 3).length
def mkN (k:Nat) (n:ND):ND:=⟨((k:Int) % 3) == 0,(k:Int)+1,fun r=>if r=0 then rowsOf strCells (mkSs (k+2) (n.l 0).length) else if r=1 then rowsOf strCells (mkSs (k+2+(n.l 0).length) (n.l 1).length) else if r=2 then rowsOf intCells (mkIs (k+2+(n.l 0).length+(n.l 1).length) (n.l 2).length) else if r=3 then rowsOf intCells (mkIs (k+2+(n.l 0).length+(n.l 1).length+(n.l 2).length) (n.l 3).length) else n.l r⟩
def mkNs:Nat->List ND->List ND
 | _,[]=>[]
 | k,n::r=>mkN k n::mkNs (k+ndLen n) r
def kT:Nat->List ND->Nat
 | k,[]=>k
 | k,n::r=>kT (k+ndLen n) r
theorem kT_snoc (k:Nat) (l:List ND) (f:ND):kT k (l++[f])=kT k l+ndLen f:=by
 induction l generalizing k with
 | nil=>rfl
 | cons a r ih=>simp only[List.cons_append,kT];exact ih _
theorem mkNs_snoc (k:Nat) (l:List ND) (f:ND):mkNs k (l++[f])=mkNs k l++[mkN (kT k l) f]:=by
 induction l generalizing k with
 | nil=>rfl
 | cons a r ih=>simp only[List.cons_append,mkNs,kT];rw[ih]
theorem mkNs_length (k:Nat) (l:List ND):(mkNs k l).length=l.length:=by
 induction l generalizing k with
 | nil=>rfl
 | cons a r ih=>simp only[mkNs,List.length_cons,ih]
theorem kT_le (k:Nat) (l:List ND):k+l.length<=kT k l:=by
 induction l generalizing k with
 | nil=>simp[kT]
 | cons a r ih=>have:=ih (k+ndLen a);simp only[kT,List.length_cons,ndLen] at this ⊢;omega
theorem kT_append (k:Nat) (a b:List ND):kT k (a++b)=kT (kT k a) b:=by
 induction a generalizing k with
 | nil=>rfl
 | cons x r ih=>simp only[List.cons_append,kT];exact ih _
def stT (k:Nat) (ns:List ND) (j:Nat):List ND:=mkNs k (ns.take j)++ns.drop j
theorem stT_length (k:Nat) (ns:List ND) (j:Nat) (h:j<=ns.length):(stT k ns j).length=ns.length:=by
 simp[stT,mkNs_length];omega
theorem stT_get (k:Nat) (ns:List ND) (j:Nat) (h:j<ns.length) (d:ND):(stT k ns j).getD j d=ns[j]:=by
 have h1:(mkNs k (ns.take j)).length=j:=by rw[mkNs_length,List.length_take];omega
 simp[stT,List.getD,List.getElem?_append_right,h1,h]
theorem stT_succ (k:Nat) (ns:List ND) (j:Nat) (h:j<ns.length):stT k ns (j+1)=(stT k ns j).set j (mkN (kT k (ns.take j)) ns[j]):=by
 have h1:(mkNs k (ns.take j)).length=j:=by rw[mkNs_length,List.length_take];omega
 unfold stT
 rw[List.set_append_right _ _ (by omega),h1,Nat.sub_self,List.drop_eq_getElem_cons h,List.set_cons_zero,List.take_succ_eq_append_getElem h,mkNs_snoc]
 simp
theorem kT_take (k:Nat) (ns:List ND) (j:Nat) (h:j<ns.length):kT k (ns.take (j+1))=kT k (ns.take j)+ndLen ns[j]:=by
 rw[List.take_succ_eq_append_getElem h,kT_snoc]
theorem kT_take_le (k:Nat) (ns:List ND) (j:Nat):kT k (ns.take j)<=kT k ns:=by
 have h1:kT k ns=kT (kT k (ns.take j)) (ns.drop j):=by rw[<-kT_append,List.take_append_drop]
 have:=kT_le (kT k (ns.take j)) (ns.drop j)
 omega
theorem mkNs_get (k:Nat) (ns:List ND) (j:Nat) (h:j<ns.length) (d:ND):(mkNs k ns).getD j d=mkN (kT k (ns.take j)) ns[j]:=by
 induction ns generalizing k j with
 | nil=>simp at h
 | cons a r ih =>
  cases j with
  | zero=>simp[mkNs,kT]
  | succ j =>
   have h':j<r.length:=by simpa using h
   simpa[mkNs,kT] using ih (k+ndLen a) j h'
theorem OwnT.over' {w w':World} {base:Nat} {v:Value} {S:List ND} {M:ND} {us:Nat->Nat->Value} {j q:Nat} (h:OwnT w base v (S.set j M) us) (hj:j<S.length) (hq:q<4) {zs:List Value} (hz:zs.length=(M.l q).length) (hr:w'.ownsRow base (ety q) 1 (us j q) zs.length zs) (hf:Fr (fun b=>some b=(us j q).ownBlock) w w') :
  OwnT w' base v (S.set j ⟨M.leaf,M.page,fun r=>if r=q then zs else M.l r⟩) us:=by
 have hj':j<(S.set j M).length:=by simpa using hj
 have e:(S.set j M).getD j dN=M:=by rw[getD_setN _ _ _ _ _ hj,if_pos rfl]
 have:=h.over hj' hq (by rw[e];exact hz) hr hf
 rw[e,List.set_set] at this
 exact this
theorem OwnT.list {w:World} {base:Nat} {v:Value} {S:List ND} {M:ND} {us:Nat->Nat->Value} {j:Nat} (h:OwnT w base v (S.set j M) us) (hj:j<S.length) (q:Nat) (hq:q<4):w.ownsRow base (ety q) 1 (us j q) (M.l q).length (M.l q):=by
 have:=h.data j (by simpa using hj) q hq
 rwa [getD_setN _ _ _ _ _ hj,if_pos rfl] at this
theorem ownT_shape {w:World} {base e size:Nat} {v:Value} {n:Nat} {xs:List Value} (h:w.ownsRow base e size v n xs):∃ a c,v=.slice a n c:=by
 rcases h.2 with ⟨rfl,rfl⟩ | ⟨g,cap,cur,rfl,_⟩
 ·exact⟨none,0,rfl⟩
 ·exact⟨_,_,rfl⟩
theorem rows_len1 {α:Type} {cs:α->List Value} (hc:∀ x,(cs x).length=1) (zs:List α):(rowsOf cs zs).length=zs.length:=by rw[rowsOf_length hc];omega
theorem markTNodeS_own (a:Option Addr) (n c k base:Nat) (ns:List ND) (us:Nat->Nat->Value) (w:World) (h:OwnT w base (.slice a n c) ns us) (hn:n=ns.length) (hk:kT k ns<=1000000000) :
  Calls Tryz.prog 31 #[.slice a n c,.int .i64 k] w fun e w'=>e=.returned (.int .i64 ((kT k ns:Nat):Int))∧OwnT w' base (.slice a n c) (mkNs k ns) us∧Fr (BlkT (.slice a n c) ns.length us) w w':=by
 have hnb:n<=1000000000:=by have:=kT_le k ns;omega
 replace hn:Hid (n=ns.length):=hn
 go_enter Tryz.func31,Tryz.ntmps31
 go_wp2_with fail
 go_loopw [1,5] (fun kv i wr=>∃ (j:Nat),j<=n∧i=.int .i64 j∧kv=.int .i64 ((kT k (ns.take j):Nat):Int)∧Hid (OwnT wr base (.slice a n c) (stT k ns j) us∧Fr (BlkT (.slice a n c) ns.length us) w wr)) (fun _ i _=>n - (intOf i).toNat)
 case atStart=>exact⟨0,Nat.zero_le _,rfl,by simp[kT],by simpa[stT,mkNs] using h,Fr.refl _ _⟩
 case round =>
  clear h
  obtain⟨j,hj,rfl,rfl,HX⟩:=hrel
  by_cases hlt:j<n
  ·obtain⟨g,rfl⟩:∃ g,a=some ⟨g,0,none⟩:=by
    rcases HX.out.1.row.2 with ⟨h0,h1⟩ | ⟨g,cap,cur,h0,_⟩
    ·have:=hn.out;rw[stT_length _ _ _ (by omega)] at h1;omega
    ·injection h0 with h1;exact⟨g,h1⟩
   have hjf:j<ns.length:=by have:=hn.out;omega
   have hsl:=stT_length k ns j (by omega)
   have hjs:j<(stT k ns j).length:=by omega
   have HSU:Hid (stT k ns (j+1)=(stT k ns j).set j (mkN (kT k (ns.take j)) ns[j])):=stT_succ k ns j hjf
   have hget:=stT_get k ns j hjf dN
   have HK:Hid (kT k (ns.take (j+1))=kT k (ns.take j)+ndLen ns[j]):=kT_take k ns j hjf
   have hKle:=kT_take_le k ns (j+1)
   obtain⟨nd,hnd⟩:∃ nd,nd=ns[j]:=⟨_,rfl⟩
   rw[<-hnd] at HSU hget HK
   obtain⟨kk,hkk⟩:∃ kk,kk=kT k (ns.take j):=⟨_,rfl⟩
   rw[<-hkk] at HSU HK ⊢
   have hkb:kk+2+(nd.l 0).length+(nd.l 1).length+(nd.l 2).length+(nd.l 3).length<=1000000000:=by have h1:=HK.out;unfold ndLen at h1;omega
   clear hnd hkk hKle hsl
   have hh:=HX.out.1.head (j:=j) hjs (((kk:Int) % 3) == 0) ((kk:Int)+1)
   rw[hget] at hh
   have hf0:=HX.out.1.thaw (j*6)
   have hf1:=HX.out.1.thaw (j*6+1)
   have hu0:=HX.out.1.cell (i:=j) (j:=0) hjs (by omega)
   have hu1:=HX.out.1.cell (i:=j) (j:=1) hjs (by omega)
   rw[hget] at hu0 hu1
   replace hu0:wr.cell? ⟨g,j*6,none⟩=some (.bool nd.leaf):=hu0
   replace hu1:wr.cell? ⟨g,j*6+1,none⟩=some (.int .i64 nd.page):=hu1
   have hgl:g<wr.heap.size:=(HX.out.1.row.lt g rfl).2
   have O0:Hid (OwnT ((wr.setCell ⟨g,j*6,none⟩ (.bool (((kk:Int) % 3) == 0))).setCell ⟨g,j*6+1,none⟩ (.int .i64 ((kk:Int)+1))) base (.slice (some ⟨g,0,none⟩) n c) ((stT k ns j).set j ⟨((kk:Int) % 3) == 0,(kk:Int)+1,nd.l⟩) us):=hh.1
   have FR0:Hid (Fr (BlkT (.slice (some ⟨g,0,none⟩) n c) ns.length us) w ((wr.setCell ⟨g,j*6,none⟩ (.bool (((kk:Int) % 3) == 0))).setCell ⟨g,j*6+1,none⟩ (.int .i64 ((kk:Int)+1)))):=HX.out.2.trans (hh.2.weak (fun b e=>.inl (by rw[e];rfl)))
   clear hh HX hget
   go_upto_region 8 with fail
   generalize ((wr.setCell ⟨g,j*6,none⟩ (.bool (((kk:Int) % 3) == 0))).setCell ⟨g,j*6+1,none⟩ (.int .i64 ((kk:Int)+1)))=W0 at O0 FR0 ⊢
   clear hf0 hf1 hu0 hu1 hgl
   obtain⟨k0,hk0⟩:∃ k0,k0=kk+2:=⟨_,rfl⟩
   have HK0:Hid (k0=kk+2):=hk0
   have hkb0:k0+(nd.l 0).length+(nd.l 1).length+(nd.l 2).length+(nd.l 3).length<=1000000000:=by omega
   have hcast:(kk:Int)+1+1=(k0:Int):=by omega
   rw[hcast]
   clear hcast hk0
   have hL0:W0.ownsRow base 9 1 (us j 0) (nd.l 0).length (nd.l 0):=O0.out.list hjs 0 (by omega)
   obtain⟨a0,c0,hs0⟩:=ownT_shape hL0
   have x0:W0.cell? ⟨g,j*6+2,none⟩=some (.slice a0 (nd.l 0).length c0):=by
    have:=O0.out.cell (i:=j) (j:=2) (by simpa using hjs) (by omega)
    rw[this,getD_setN _ _ _ _ _ hjs,if_pos rfl]
    show some (us j 0)=_
    rw[hs0]
   have gl0:g<W0.heap.size:=(O0.out.row.lt g rfl).2
   have hc0:=markStringS_own a0 (nd.l 0).length c0 k0 base (nd.l 0) W0 (by rw[hs0] at hL0;exact hL0) (by omega)
   obtain⟨n0,hn0⟩:∃ n0,n0=(nd.l 0).length:=⟨_,rfl⟩
   have HN0:Hid (n0=(nd.l 0).length):=hn0
   rw[<-hn0] at x0 hc0
   clear hn0
   go_wp2_with fail
   refine hc0.mono ?_
   rintro e W1 ⟨rfl,hr0,hf0⟩
   have O1:Hid (OwnT W1 base (.slice (some ⟨g,0,none⟩) n c) ((stT k ns j).set j (⟨((kk:Int) % 3) == 0,(kk:Int)+1,fun r=>if r=0 then rowsOf strCells (mkSs k0 n0) else nd.l r⟩:ND)) us):=O0.out.over' hjs (q:=0) (zs:=rowsOf strCells (mkSs k0 n0)) (by omega) (by rw[rows_len1 sc1,mkSs_len];exact HN0.out) (by rw[rows_len1 sc1,mkSs_len,hs0,<-HN0.out];exact hr0) (by rw[hs0,<-HN0.out];exact hf0)
   have FR1:Hid (Fr (BlkT (.slice (some ⟨g,0,none⟩) n c) ns.length us) w W1):=FR0.out.trans (hf0.weak (fun b hb=>.inr ⟨j,0,hjf,by omega,by rw[hs0,<-HN0.out];exact hb.symm⟩))
   obtain⟨k1,hk1⟩:∃ k1,k1=k0+n0:=⟨_,rfl⟩
   have HK1:Hid (k1=k0+n0):=hk1
   have hkb1:k1+(nd.l 1).length+(nd.l 2).length+(nd.l 3).length<=1000000000:=by have:=HN0.out;omega
   rw[<-hk1]
   clear hL0 hk1 hc0 hr0 hf0 O0 FR0 x0 gl0
   have hL1:W1.ownsRow base 9 1 (us j 1) (nd.l 1).length (nd.l 1):=O1.out.list hjs 1 (by omega)
   obtain⟨a1,c1,hs1⟩:=ownT_shape hL1
   have x1:W1.cell? ⟨g,j*6+3,none⟩=some (.slice a1 (nd.l 1).length c1):=by
    have:=O1.out.cell (i:=j) (j:=3) (by simpa using hjs) (by omega)
    rw[this,getD_setN _ _ _ _ _ hjs,if_pos rfl]
    show some (us j 1)=_
    rw[hs1]
   have gl1:g<W1.heap.size:=(O1.out.row.lt g rfl).2
   have hc1:=markStringS_own a1 (nd.l 1).length c1 k1 base (nd.l 1) W1 (by rw[hs1] at hL1;exact hL1) (by omega)
   obtain⟨n1,hn1⟩:∃ n1,n1=(nd.l 1).length:=⟨_,rfl⟩
   have HN1:Hid (n1=(nd.l 1).length):=hn1
   rw[<-hn1] at x1 hc1
   clear hn1
   go_wp2_with fail
   refine hc1.mono ?_
   rintro e W2 ⟨rfl,hr1,hf1⟩
   have O2:Hid (OwnT W2 base (.slice (some ⟨g,0,none⟩) n c) ((stT k ns j).set j (⟨((kk:Int) % 3) == 0,(kk:Int)+1,fun r=>if r=1 then rowsOf strCells (mkSs k1 n1) else (if r=0 then rowsOf strCells (mkSs k0 n0) else nd.l r)⟩:ND)) us):=O1.out.over' hjs (q:=1) (zs:=rowsOf strCells (mkSs k1 n1)) (by omega) (by rw[rows_len1 sc1,mkSs_len];exact HN1.out) (by rw[rows_len1 sc1,mkSs_len,hs1,<-HN1.out];exact hr1) (by rw[hs1,<-HN1.out];exact hf1)
   have FR2:Hid (Fr (BlkT (.slice (some ⟨g,0,none⟩) n c) ns.length us) w W2):=FR1.out.trans (hf1.weak (fun b hb=>.inr ⟨j,1,hjf,by omega,by rw[hs1,<-HN1.out];exact hb.symm⟩))
   obtain⟨k2,hk2⟩:∃ k2,k2=k1+n1:=⟨_,rfl⟩
   have HK2:Hid (k2=k1+n1):=hk2
   have hkb2:k2+(nd.l 2).length+(nd.l 3).length<=1000000000:=by have:=HN1.out;omega
   rw[<-hk2]
   clear hL1 hk2 hc1 hr1 hf1 O1 FR1 x1 gl1
   have hL2:W2.ownsRow base 2 1 (us j 2) (nd.l 2).length (nd.l 2):=O2.out.list hjs 2 (by omega)
   obtain⟨a2,c2,hs2⟩:=ownT_shape hL2
   have x2:W2.cell? ⟨g,j*6+4,none⟩=some (.slice a2 (nd.l 2).length c2):=by
    have:=O2.out.cell (i:=j) (j:=4) (by simpa using hjs) (by omega)
    rw[this,getD_setN _ _ _ _ _ hjs,if_pos rfl]
    show some (us j 2)=_
    rw[hs2]
   have gl2:g<W2.heap.size:=(O2.out.row.lt g rfl).2
   have hc2:=markInt64S_own a2 (nd.l 2).length c2 k2 base (nd.l 2) W2 (by rw[hs2] at hL2;exact hL2) (by omega)
   obtain⟨n2,hn2⟩:∃ n2,n2=(nd.l 2).length:=⟨_,rfl⟩
   have HN2:Hid (n2=(nd.l 2).length):=hn2
   rw[<-hn2] at x2 hc2
   clear hn2
   go_wp2_with fail
   refine hc2.mono ?_
   rintro e W3 ⟨rfl,hr2,hf2⟩
   have O3:Hid (OwnT W3 base (.slice (some ⟨g,0,none⟩) n c) ((stT k ns j).set j (⟨((kk:Int) % 3) == 0,(kk:Int)+1,fun r=>if r=2 then rowsOf intCells (mkIs k2 n2) else (if r=1 then rowsOf strCells (mkSs k1 n1) else (if r=0 then rowsOf strCells (mkSs k0 n0) else nd.l r))⟩:ND)) us):=O2.out.over' hjs (q:=2) (zs:=rowsOf intCells (mkIs k2 n2)) (by omega) (by rw[rows_len1 ic1,mkIs_len];exact HN2.out) (by rw[rows_len1 ic1,mkIs_len,hs2,<-HN2.out];exact hr2) (by rw[hs2,<-HN2.out];exact hf2)
   have FR3:Hid (Fr (BlkT (.slice (some ⟨g,0,none⟩) n c) ns.length us) w W3):=FR2.out.trans (hf2.weak (fun b hb=>.inr ⟨j,2,hjf,by omega,by rw[hs2,<-HN2.out];exact hb.symm⟩))
   obtain⟨k3,hk3⟩:∃ k3,k3=k2+n2:=⟨_,rfl⟩
   have HK3:Hid (k3=k2+n2):=hk3
   have hkb3:k3+(nd.l 3).length<=1000000000:=by have:=HN2.out;omega
   rw[<-hk3]
   clear hL2 hk3 hc2 hr2 hf2 O2 FR2 x2 gl2
   have hL3:W3.ownsRow base 2 1 (us j 3) (nd.l 3).length (nd.l 3):=O3.out.list hjs 3 (by omega)
   obtain⟨a3,c3,hs3⟩:=ownT_shape hL3
   have x3:W3.cell? ⟨g,j*6+5,none⟩=some (.slice a3 (nd.l 3).length c3):=by
    have:=O3.out.cell (i:=j) (j:=5) (by simpa using hjs) (by omega)
    rw[this,getD_setN _ _ _ _ _ hjs,if_pos rfl]
    show some (us j 3)=_
    rw[hs3]
   have gl3:g<W3.heap.size:=(O3.out.row.lt g rfl).2
   have hc3:=markInt64S_own a3 (nd.l 3).length c3 k3 base (nd.l 3) W3 (by rw[hs3] at hL3;exact hL3) (by omega)
   obtain⟨n3,hn3⟩:∃ n3,n3=(nd.l 3).length:=⟨_,rfl⟩
   have HN3:Hid (n3=(nd.l 3).length):=hn3
   rw[<-hn3] at x3 hc3
   clear hn3
   go_wp2_with fail
   refine hc3.mono ?_
   rintro e W4 ⟨rfl,hr3,hf3⟩
   have O4:Hid (OwnT W4 base (.slice (some ⟨g,0,none⟩) n c) ((stT k ns j).set j (⟨((kk:Int) % 3) == 0,(kk:Int)+1,fun r=>if r=3 then rowsOf intCells (mkIs k3 n3) else (if r=2 then rowsOf intCells (mkIs k2 n2) else (if r=1 then rowsOf strCells (mkSs k1 n1) else (if r=0 then rowsOf strCells (mkSs k0 n0) else nd.l r)))⟩:ND)) us):=O3.out.over' hjs (q:=3) (zs:=rowsOf intCells (mkIs k3 n3)) (by omega) (by rw[rows_len1 ic1,mkIs_len];exact HN3.out) (by rw[rows_len1 ic1,mkIs_len,hs3,<-HN3.out];exact hr3) (by rw[hs3,<-HN3.out];exact hf3)
   have FR4:Hid (Fr (BlkT (.slice (some ⟨g,0,none⟩) n c) ns.length us) w W4):=FR3.out.trans (hf3.weak (fun b hb=>.inr ⟨j,3,hjf,by omega,by rw[hs3,<-HN3.out];exact hb.symm⟩))
   obtain⟨k4,hk4⟩:∃ k4,k4=k3+n3:=⟨_,rfl⟩
   have HK4:Hid (k4=k3+n3):=hk4
   have hkb4:k4+0<=1000000000:=by have:=HN3.out;omega
   rw[<-hk4]
   clear hL3 hk4 hc3 hr3 hf3 O3 FR3 x3 gl3
   have HE:Hid (stT k ns (j+1)=(stT k ns j).set j (⟨((kk:Int) % 3) == 0,(kk:Int)+1,fun r=>if r=3 then rowsOf intCells (mkIs k3 n3) else (if r=2 then rowsOf intCells (mkIs k2 n2) else (if r=1 then rowsOf strCells (mkSs k1 n1) else (if r=0 then rowsOf strCells (mkSs k0 n0) else nd.l r)))⟩:ND)):=by
    show _=_
    rw[HSU.out]
    congr 1
    unfold mkN
    congr 1
    funext r
    rw[HK3.out,HK2.out,HK1.out,HK0.out,HN0.out,HN1.out,HN2.out,HN3.out]
    by_cases r0:r=0
    ·subst r0;rfl
    ·by_cases r1:r=1
     ·subst r1;rfl
     ·by_cases r2:r=2
      ·subst r2;rfl
      ·by_cases r3:r=3
       ·subst r3;rfl
       ·simp[r0,r1,r2,r3]
   have HR:Hid (OwnT W4 base (.slice (some ⟨g,0,none⟩) n c) (stT k ns (j+1)) us∧Fr (BlkT (.slice (some ⟨g,0,none⟩) n c) ns.length us) w W4):=by
    rw[HE.out]
    exact⟨O4.out,FR4.out⟩
   have HKE:Hid (kT k (ns.take (j+1))=k4):=by
    show _=_
    have h1:=HK.out;have h2:=HK0.out;have h3:=HK1.out;have h4:=HK2.out;have h5:=HK3.out;have h6:=HK4.out;have h7:=HN0.out;have h8:=HN1.out;have h9:=HN2.out;have h10:=HN3.out
    unfold ndLen at h1
    omega
   clear O4 FR4 HE HSU
   go_wp2_with fail
   go_roundw
   case rel=>exact⟨j+1,by omega,by go_num,by rw[HKE.out],HR⟩
   case measure=>simp[intOf];omega
  ·have hj2:ns.take j=ns:=List.take_of_length_le (by have:=hn.out;omega)
   have hj3:stT k ns j=mkNs k ns:=by
    unfold stT
    rw[hj2,List.drop_eq_nil_of_le (by have:=hn.out;omega),List.append_nil]
   rw[hj3] at HX
   rw[hj2]
   clear hj2 hj3
   go_wp2_with fail
   go_ret
   exact⟨rfl,HX.out.1,HX.out.2⟩
theorem heldTNodeS_own (a:Option Addr) (n c k base:Nat) (ns:List ND) (us:Nat->Nat->Value) (w:World) (h:OwnT w base (.slice a n c) (mkNs k ns) us) (hn:n=ns.length) (hk:kT k ns<=1000000000) :
  Calls Tryz.prog 63 #[.slice a n c,.int .i64 k] w fun e w'=>e=.returned (.int .i64 ((kT k ns:Nat):Int))∧Below w.heap.size w w':=by
 have hnb:n<=1000000000:=by have:=kT_le k ns;omega
 replace hn:Hid (n=ns.length):=hn
 have HO:Hid (∀ W,Below w.heap.size w W->OwnT W base (.slice a n c) (mkNs k ns) us):=fun W hW=>h.below hW
 clear h
 go_enter Tryz.func63,Tryz.ntmps63
 go_wp2_with fail
 go_loopw [1,5] (fun kv i wr=>∃ (j:Nat),j<=n∧i=.int .i64 j∧kv=.int .i64 ((kT k (ns.take j):Nat):Int)∧Below w.heap.size w wr) (fun _ i _=>n - (intOf i).toNat)
 case atStart=>exact⟨0,Nat.zero_le _,rfl,by simp[kT],Below.refl _ _⟩
 case round =>
  obtain⟨j,hj,rfl,rfl,B0⟩:=hrel
  by_cases hlt:j<n
  ·have hjf:j<ns.length:=by have:=hn.out;omega
   have hjm:j<(mkNs k ns).length:=by rw[mkNs_length];exact hjf
   obtain⟨g,rfl⟩:∃ g,a=some ⟨g,0,none⟩:=by
    rcases (HO.out wr B0).row.2 with ⟨h0,h1⟩ | ⟨g,cap,cur,h0,_⟩
    ·rw[mkNs_length] at h1;have:=hn.out;omega
    ·injection h0 with h1;exact⟨g,h1⟩
   have hget:=mkNs_get k ns j hjf dN
   have HK:Hid (kT k (ns.take (j+1))=kT k (ns.take j)+ndLen ns[j]):=kT_take k ns j hjf
   have hKle:=kT_take_le k ns (j+1)
   obtain⟨nd,hnd⟩:∃ nd,nd=ns[j]:=⟨_,rfl⟩
   rw[<-hnd] at hget HK
   obtain⟨kk,hkk⟩:∃ kk,kk=kT k (ns.take j):=⟨_,rfl⟩
   rw[<-hkk] at hget HK ⊢
   have hkb:kk+2+(nd.l 0).length+(nd.l 1).length+(nd.l 2).length+(nd.l 3).length<=1000000000:=by have h1:=HK.out;unfold ndLen at h1;omega
   have HG:Hid ((mkNs k ns).getD j dN=mkN kk nd):=hget
   clear hnd hkk hKle hget
   have HC:Hid (∀ W,Below w.heap.size w W->g<W.heap.size∧(∀ r,r<6->W.cell? ⟨g,j*6+r,none⟩=(hdC (mkN kk nd) (us j))[r]?)∧∀ r,r<4->W.ownsRow base (ety r) 1 (us j r) ((mkN kk nd).l r).length ((mkN kk nd).l r)):=fun W hW=>by
    have h1:=HO.out W hW
    refine⟨(h1.row.lt g rfl).2,fun r hr=>?_,fun r hr=>?_⟩
    ·rw[h1.cell hjm hr,HG.out]
    ·have:=h1.data j hjm r hr
     rwa [HG.out] at this
   have HL0:Hid (∀ W,Below w.heap.size w W->W.ownsRow base 9 1 (us j 0) (nd.l 0).length (rowsOf strCells (mkSs (kk+2) (nd.l 0).length))):=fun W hW=>by
    have:=(HC.out W hW).2.2 0 (by omega)
    have e:((mkN kk nd).l 0)=rowsOf strCells (mkSs (kk+2) (nd.l 0).length):=rfl
    rw[e,rows_len1 sc1,mkSs_len] at this
    exact this
   obtain⟨a0,c0,hs0⟩:=ownT_shape (HL0.out wr B0)
   have HL1:Hid (∀ W,Below w.heap.size w W->W.ownsRow base 9 1 (us j 1) (nd.l 1).length (rowsOf strCells (mkSs (kk+2+(nd.l 0).length) (nd.l 1).length))):=fun W hW=>by
    have:=(HC.out W hW).2.2 1 (by omega)
    have e:((mkN kk nd).l 1)=rowsOf strCells (mkSs (kk+2+(nd.l 0).length) (nd.l 1).length):=rfl
    rw[e,rows_len1 sc1,mkSs_len] at this
    exact this
   obtain⟨a1,c1,hs1⟩:=ownT_shape (HL1.out wr B0)
   have HL2:Hid (∀ W,Below w.heap.size w W->W.ownsRow base 2 1 (us j 2) (nd.l 2).length (rowsOf intCells (mkIs (kk+2+(nd.l 0).length+(nd.l 1).length) (nd.l 2).length))):=fun W hW=>by
    have:=(HC.out W hW).2.2 2 (by omega)
    have e:((mkN kk nd).l 2)=rowsOf intCells (mkIs (kk+2+(nd.l 0).length+(nd.l 1).length) (nd.l 2).length):=rfl
    rw[e,rows_len1 ic1,mkIs_len] at this
    exact this
   obtain⟨a2,c2,hs2⟩:=ownT_shape (HL2.out wr B0)
   have HL3:Hid (∀ W,Below w.heap.size w W->W.ownsRow base 2 1 (us j 3) (nd.l 3).length (rowsOf intCells (mkIs (kk+2+(nd.l 0).length+(nd.l 1).length+(nd.l 2).length) (nd.l 3).length))):=fun W hW=>by
    have:=(HC.out W hW).2.2 3 (by omega)
    have e:((mkN kk nd).l 3)=rowsOf intCells (mkIs (kk+2+(nd.l 0).length+(nd.l 1).length+(nd.l 2).length) (nd.l 3).length):=rfl
    rw[e,rows_len1 ic1,mkIs_len] at this
    exact this
   obtain⟨a3,c3,hs3⟩:=ownT_shape (HL3.out wr B0)
   have C0:Hid (∀ W,Below w.heap.size w W->g<W.heap.size∧W.cell? ⟨g,j*6,none⟩=some (.bool (((kk:Int) % 3) == 0))∧W.cell? ⟨g,j*6+1,none⟩=some (.int .i64 ((kk:Int)+1))):=fun W hW=>⟨(HC.out W hW).1,(HC.out W hW).2.1 0 (by omega),(HC.out W hW).2.1 1 (by omega)⟩
   have C1:Hid (∀ W,Below w.heap.size w W->W.cell? ⟨g,j*6+2,none⟩=some (.slice a0 (nd.l 0).length c0)∧W.cell? ⟨g,j*6+3,none⟩=some (.slice a1 (nd.l 1).length c1)∧W.cell? ⟨g,j*6+4,none⟩=some (.slice a2 (nd.l 2).length c2)∧W.cell? ⟨g,j*6+5,none⟩=some (.slice a3 (nd.l 3).length c3)):=fun W hW=>by
    have h2:=(HC.out W hW).2.1
    refine⟨(h2 2 (by omega)).trans ?_,(h2 3 (by omega)).trans ?_,(h2 4 (by omega)).trans ?_,(h2 5 (by omega)).trans ?_⟩
    ·show some (us j 0)=_;rw[hs0]
    ·show some (us j 1)=_;rw[hs1]
    ·show some (us j 2)=_;rw[hs2]
    ·show some (us j 3)=_;rw[hs3]
   rw[hs0] at HL0
   rw[hs1] at HL1
   rw[hs2] at HL2
   rw[hs3] at HL3
   clear HC hs0 hs1 hs2 hs3 HG
   obtain⟨n0,hn0⟩:∃ x,x=(nd.l 0).length:=⟨_,rfl⟩
   obtain⟨n1,hn1⟩:∃ x,x=(nd.l 1).length:=⟨_,rfl⟩
   obtain⟨n2,hn2⟩:∃ x,x=(nd.l 2).length:=⟨_,rfl⟩
   obtain⟨n3,hn3⟩:∃ x,x=(nd.l 3).length:=⟨_,rfl⟩
   have HKE:Hid (kT k (ns.take (j+1))=kk+2+n0+n1+n2+n3):=by show _=_;rw[HK.out,ndLen,hn0,hn1,hn2,hn3];omega
   rw[<-hn0,<-hn1,<-hn2,<-hn3] at hkb C1
   rw[<-hn0] at HL0
   rw[<-hn0,<-hn1] at HL1
   rw[<-hn0,<-hn1,<-hn2] at HL2
   rw[<-hn0,<-hn1,<-hn2,<-hn3] at HL3
   clear hn0 hn1 hn2 hn3 HK
   obtain⟨gl,x0,x1⟩:=C0.out wr B0
   obtain⟨bb,hbb⟩:∃ b,b=(((kk:Int) % 3) == 0):=⟨_,rfl⟩
   rw[<-hbb] at x0
   have hb1:(bb != (((kk:Int) % 3) == 0))=false:=by rw[hbb];simp
   have hp1:(((kk:Int)+1) != ((kk:Int)+1))=false:=by simp
   obtain⟨x2,x3,x4,x5⟩:=C1.out wr B0
   have BW0:=B0
   obtain⟨k0,hk0⟩:∃ k0,k0=kk+2:=⟨_,rfl⟩
   rw[<-hk0] at HL0 HL1 HL2 HL3 HKE
   go_upto_region 10 with fail
   rw[show (kk:Int)+1+1=(k0:Int) by omega]
   have hkb0:k0+n0+n1+n2+n3<=1000000000:=by omega
   clear hk0 x0 x1 hb1 hp1 hbb hkb C0
   have hc0:=heldStringS_own a0 n0 c0 k0 base wr (by have:=HL0.out wr B0;exact this) (by omega)
   have hd0:decide (((k0+n0:Nat):Int)<0)=false:=by simp;omega
   go_wp2_with fail
   refine hc0.mono ?_
   rintro e w1 ⟨rfl,hbl0⟩
   have B1:Below w.heap.size w w1:=B0.trans (hbl0.mono B0.size)
   have gl0:g<w1.heap.size:=Nat.lt_of_lt_of_le gl hbl0.size
   obtain⟨k1,hk1⟩:∃ x,x=k0+n0:=⟨_,rfl⟩
   rw[<-hk1] at HL1 HL2 HL3 HKE hd0 ⊢
   have hkb1:k1+n1+n2+n3<=1000000000:=by omega
   clear hk1 hc0 hbl0 x2 x3 x4 x5
   obtain⟨x2,x3,x4,x5⟩:=C1.out w1 B1
   have hc1:=heldStringS_own a1 n1 c1 k1 base w1 (by have:=HL1.out w1 B1;exact this) (by omega)
   have hd1:decide (((k1+n1:Nat):Int)<0)=false:=by simp;omega
   go_wp2_with fail
   refine hc1.mono ?_
   rintro e w2 ⟨rfl,hbl1⟩
   have B2:Below w.heap.size w w2:=B1.trans (hbl1.mono B1.size)
   have gl1:g<w2.heap.size:=Nat.lt_of_lt_of_le gl0 hbl1.size
   obtain⟨k2,hk2⟩:∃ x,x=k1+n1:=⟨_,rfl⟩
   rw[<-hk2] at HL2 HL3 HKE hd1 ⊢
   have hkb2:k2+n2+n3<=1000000000:=by omega
   clear hk2 hc1 hbl1 x2 x3 x4 x5
   obtain⟨x2,x3,x4,x5⟩:=C1.out w2 B2
   have hc2:=heldInt64S_own a2 n2 c2 k2 base w2 (by have:=HL2.out w2 B2;exact this) (by omega)
   have hd2:decide (((k2+n2:Nat):Int)<0)=false:=by simp;omega
   go_wp2_with fail
   refine hc2.mono ?_
   rintro e w3 ⟨rfl,hbl2⟩
   have B3:Below w.heap.size w w3:=B2.trans (hbl2.mono B2.size)
   have gl2:g<w3.heap.size:=Nat.lt_of_lt_of_le gl1 hbl2.size
   obtain⟨k3,hk3⟩:∃ x,x=k2+n2:=⟨_,rfl⟩
   rw[<-hk3] at HL3 HKE hd2 ⊢
   have hkb3:k3+n3<=1000000000:=by omega
   clear hk3 hc2 hbl2 x2 x3 x4 x5
   obtain⟨x2,x3,x4,x5⟩:=C1.out w3 B3
   have hc3:=heldInt64S_own a3 n3 c3 k3 base w3 (by have:=HL3.out w3 B3;exact this) (by omega)
   have hd3:decide (((k3+n3:Nat):Int)<0)=false:=by simp;omega
   go_wp2_with fail
   refine hc3.mono ?_
   rintro e w4 ⟨rfl,hbl3⟩
   have B4:Below w.heap.size w w4:=B3.trans (hbl3.mono B3.size)
   have gl3:g<w4.heap.size:=Nat.lt_of_lt_of_le gl2 hbl3.size
   obtain⟨k4,hk4⟩:∃ x,x=k3+n3:=⟨_,rfl⟩
   rw[<-hk4] at HKE hd3 ⊢
   have hkb4:k4<=1000000000:=by omega
   clear hk4 hc3 hbl3 x2 x3 x4 x5
   obtain⟨x2,x3,x4,x5⟩:=C1.out w4 B4
   go_wp2_with fail
   go_roundw
   case rel=>exact⟨j+1,by omega,by go_num,by rw[HKE.out],B4⟩
   case measure=>simp[intOf];omega
  ·have hj2:ns.take j=ns:=List.take_of_length_le (by have:=hn.out;omega)
   rw[hj2]
   clear hj2
   go_wp2_with fail
   go_ret
   exact⟨rfl,B0⟩
theorem markTree_own (a:Option Addr) (n c k base:Nat) (ns:List ND) (us:Nat->Nat->Value) (w:World) (h:OwnT w base (.slice a n c) ns us) (hn:n=ns.length) (hk:kT k ns<=1000000000) :
  Calls Tryz.prog 12 #[.agg #[.slice a n c],.int .i64 k] w fun e w'=>e=.returned (.int .i64 ((kT k ns:Nat):Int))∧OwnT w' base (.slice a n c) (mkNs k ns) us∧Fr (BlkT (.slice a n c) ns.length us) w w':=by
 have hb1:Below w.heap.size w (w.alloc (.cells #[.slice a n c] 29)):=(Below.refl _ _).alloc (Nat.le_refl _) _
 replace hn:Hid (n=ns.length):=hn
 go_enter Tryz.func12,Tryz.ntmps12
 go_wp2_with fail
 generalize w.alloc (.cells #[.slice a n c] 29)=W1 at hb1 ⊢
 refine (markTNodeS_own a n c k base ns us W1 (h.below hb1) hn.out hk).mono ?_
 rintro e w3 ⟨rfl,hO,hF⟩
 have HR:Hid (OwnT w3 base (.slice a n c) (mkNs k ns) us∧Fr (BlkT (.slice a n c) ns.length us) w w3):=⟨hO,(Fr.of_below hb1).trans hF⟩
 clear hO hF hb1 h
 go_wp2_with fail
 go_ret
 exact⟨rfl,HR.out.1,HR.out.2⟩
theorem heldTree_own (a:Option Addr) (n c k base:Nat) (ns:List ND) (us:Nat->Nat->Value) (w:World) (h:OwnT w base (.slice a n c) (mkNs k ns) us) (hn:n=ns.length) (hk:kT k ns<=1000000000) :
  Calls Tryz.prog 33 #[.agg #[.slice a n c],.int .i64 k] w fun e w'=>e=.returned (.int .i64 ((kT k ns:Nat):Int))∧Below w.heap.size w w':=by
 have hb1:Below w.heap.size w (w.alloc (.cells #[.slice a n c] 29)):=(Below.refl _ _).alloc (Nat.le_refl _) _
 have hd:decide (((kT k ns:Nat):Int)<0)=false:=by simp
 replace hn:Hid (n=ns.length):=hn
 go_enter Tryz.func33,Tryz.ntmps33
 go_wp2_with fail
 generalize w.alloc (.cells #[.slice a n c] 29)=W1 at hb1 ⊢
 refine (heldTNodeS_own a n c k base ns us W1 (h.below hb1) hn.out hk).mono ?_
 rintro e w3 ⟨rfl,hb3⟩
 have HR:=hb1.trans (hb3.mono hb1.size)
 clear hb3 hb1 h
 go_wp2_with fail
 go_ret
 exact⟨rfl,HR⟩
def TN.nd (t:TN):ND:=⟨t.leaf,t.page,fun r=>if r=0 then rowsOf strCells t.keys else if r=1 then rowsOf strCells t.vals else if r=2 then rowsOf intCells t.over else if r=3 then rowsOf intCells t.kids else []⟩
theorem rowsC_snoc {ns:List ND} {nd:ND} {us:Nat->Nat->Value} {u:Nat->Value}:rowsC (fun i=>hdC ((ns++[nd]).getD i dN) (if i=ns.length then u else us i)) (ns++[nd]).length=rowsC (fun i=>hdC (ns.getD i dN) (us i)) ns.length++hdC nd u:=by
 have e1:(ns++[nd]).length=ns.length+1:=by simp
 rw[e1,rowsC_succ,rowsC_congr (css:=fun i=>hdC (ns.getD i dN) (us i)) (fun i hi=>?_)]
 ·congr 1
  show hdC ((ns++[nd]).getD ns.length dN) (if ns.length=ns.length then u else us ns.length)=hdC nd u
  rw[if_pos rfl]
  simp[List.getD]
 ·show hdC ((ns++[nd]).getD i dN) (if i=ns.length then u else us i)=hdC (ns.getD i dN) (us i)
  rw[if_neg (by omega)]
  simp[List.getD,List.getElem?_append_left hi]
theorem getD_snocN (ns:List ND) (nd:ND) (i:Nat):(ns++[nd]).getD i dN=if i=ns.length then nd else ns.getD i dN:=by
 by_cases h:i=ns.length
 ·rw[if_pos h,h];simp[List.getD]
 ·rw[if_neg h]
  by_cases h2:i<ns.length
  ·simp[List.getD,List.getElem?_append_left h2]
  ·simp[List.getD,List.getElem?_append_right (by omega:ns.length<=i),show ¬ i<ns.length by omega,List.getElem?_eq_none (by simp;omega:[nd].length<=i - ns.length)]
theorem OwnT.push {w1 w2 w3:World} {base M:Nat} {v v':Value} {ns:List ND} {nd:ND} {us:Nat->Nat->Value} {u:Nat->Value} (h:OwnT w1 base v ns us) (hM:∀ g,BlkT v ns.length us g->g<M) (hb:base<=M) (hk:Fr (fun g=>M<=g) w1 w2)
  (hl:∀ r,r<4->w2.ownsRow M (ety r) 1 (u r) (nd.l r).length (nd.l r)) (ha:∀ r s,r<4->s<4->r≠s->∀ g,(u r).ownBlock=some g->(u s).ownBlock≠some g)
  (hrow:w3.ownsRow base 103 6 v' (ns.length+1) (rowsC (fun i=>hdC (ns.getD i dN) (us i)) ns.length++hdC nd u)) (hgr:w2.grownBy w3 v.ownBlock) :
  OwnT w3 base v' (ns++[nd]) (fun i=>if i=ns.length then u else us i):=by
 have h2:=h.fr hk (fun g hg e=>by have:=hM g hg;omega)
 have hf3:Fr (fun g=>v.ownBlock=some g) w2 w3:=Fr.of_grown hgr (fun g e=>e)
 refine⟨?_,?_,?_⟩
 ·rw[rowsC_snoc,show (ns++[nd]).length=ns.length+1 by simp]
  exact hrow
 ·intro i hi r hr
  rw[show (ns++[nd]).length=ns.length+1 by simp] at hi
  rw[getD_snocN]
  by_cases he:i=ns.length
  ·rw[if_pos he]
   simp only[he,if_true]
   exact owns_fr (own_lowerT (hl r hr) hb) hf3 (fun g hg e=>by have h3:=(hl r hr).lt g hg;have:=hM g (.inl e);omega)
  ·rw[if_neg he]
   simp only[he,if_false]
   have hi2:i<ns.length:=by omega
   exact owns_fr (h2.data i hi2 r hr) hf3 (fun g hg e=>own_neT h2.row (h2.data i hi2 r hr) g hg e)
 ·intro i r j s hi hj hr hs hne g hg
  rw[show (ns++[nd]).length=ns.length+1 by simp] at hi hj
  by_cases hei:i=ns.length<;>by_cases hej:j=ns.length
  ·simp only[hei,hej,if_true] at hg ⊢
   exact ha r s hr hs (fun e=>hne ⟨by omega,e⟩) g hg
  ·simp only[hei,if_true] at hg
   simp only[hej,if_false]
   intro e
   have h3:=((hl r hr).lt g hg).1
   have:=hM g (.inr ⟨j,s,by omega,hs,e⟩)
   omega
  ·simp only[hei,if_false] at hg
   simp only[hej,if_true]
   intro e
   have h3:=((hl s hs).lt g e).1
   have:=hM g (.inr ⟨i,r,by omega,hr,hg⟩)
   omega
  ·simp only[hei,if_false] at hg
   simp only[hej,if_false]
   exact h.apart i r j s (by omega) (by omega) hr hs hne g hg
theorem OwnT.app {w w2:World} {base g n c:Nat} {ns:List ND} {us:Nat->Nat->Value} (h:OwnT w base (.slice (some ⟨g,0,none⟩) n c) ns us) {j q:Nat} (hj:j<ns.length) (hq:q<4) {v':Value} {zs:List Value}
  (hr:w2.ownsRow base (ety q) 1 v' zs.length zs) (hgr:w.grownBy w2 (us j q).ownBlock) (hat:v'.ownBlock=(us j q).ownBlock∨∀ b,v'.ownBlock=some b->w.heap.size<=b) :
  OwnT (w2.setCell ⟨g,j*6+2+q,none⟩ v') base (.slice (some ⟨g,0,none⟩) n c) (ns.set j ⟨(ns.getD j dN).leaf,(ns.getD j dN).page,fun r=>if r=q then zs else (ns.getD j dN).l r⟩) (fun i r=>if i=j∧r=q then v' else us i r)∧Fr (fun b=>b=g∨(us j q).ownBlock=some b) w (w2.setCell ⟨g,j*6+2+q,none⟩ v'):=by
 have hf2:Fr (fun b=>(us j q).ownBlock=some b) w w2:=Fr.of_grown hgr (fun b e=>e)
 have hf3:Fr (fun b=>b=g) w2 (w2.setCell ⟨g,j*6+2+q,none⟩ v'):=fr_setT w2 g _ v'
 have hn:n=ns.length:=by
  rcases h.row.2 with ⟨h',_⟩ | ⟨g',cap',cur,h',_⟩
  ·simp at h'
  ·simp at h';omega
 have hgl:=h.row.lt g rfl
 have hrow2:w2.ownsRow base 103 6 (.slice (some ⟨g,0,none⟩) n c) ns.length (rowsC (fun i=>hdC (ns.getD i dN) (us i)) ns.length):=owns_fr h.row hf2 (fun b hb e=>own_neT h.row (h.data j hj q hq) b e hb)
 have hvg:v'.ownBlock≠some g:=by
  rcases hat with e | e
  ·rw[e];intro e2;exact own_neT h.row (h.data j hj q hq) g e2 rfl
  ·intro e2;have:=e g e2;omega
 have hoth:∀ i r,i<ns.length->r<4->¬ (i=j∧r=q)->∀ b,(us i r).ownBlock=some b->v'.ownBlock≠some b:=fun i r hi hr2 hne b hb=>by
  rcases hat with e | e
  ·rw[e];exact h.apart i r j q hi hj hr2 hq hne b hb
  ·intro e2;have:=e b e2;have:=(h.data i hi r hr2).lt b hb;omega
 subst hn
 have r1:=(hrow2.stored (j*6+2+q) v').1
 refine⟨⟨?_,?_,?_⟩,(hf2.weak (fun b e=>.inr e)).trans (hf3.weak (fun b e=>.inl e))⟩
 ·rw[List.length_set]
  have hx:(rowsC (fun i=>hdC (ns.getD i dN) (us i)) ns.length).set (j*6+2+q) v'=rowsC (fun i=>hdC ((ns.set j ⟨(ns.getD j dN).leaf,(ns.getD j dN).page,fun r=>if r=q then zs else (ns.getD j dN).l r⟩).getD i dN) (fun r=>if i=j∧r=q then v' else us i r)) ns.length:=by
   have ha:=rowsC_get (css:=fun i=>hdC (ns.getD i dN) (us i)) (m:=ns.length) (fun i hi=>hdC_len _ _)
   have hb:=rowsC_get (css:=fun i=>hdC ((ns.set j ⟨(ns.getD j dN).leaf,(ns.getD j dN).page,fun r=>if r=q then zs else (ns.getD j dN).l r⟩).getD i dN) (fun r=>if i=j∧r=q then v' else us i r)) (m:=ns.length) (fun i hi=>hdC_len _ _)
   refine List.ext_getElem? (fun p=>?_)
   by_cases hp:p<ns.length*6
   ·have hi:p / 6<ns.length:=by omega
    have hr6:p % 6<6:=by omega
    have e:=hb.2 (p / 6) (p % 6) hi hr6
    have e2:=ha.2 (p / 6) (p % 6) hi hr6
    rw[show p / 6*6+p % 6=p by omega] at e e2
    rw[e]
    show _=(hdC ((ns.set j _).getD (p / 6) dN) (fun r=>if p / 6=j∧r=q then v' else us (p / 6) r))[p % 6]?
    rw[getD_setN _ _ _ _ _ hj]
    by_cases hij:p / 6=j
    ·rw[if_pos hij]
     have hc:p % 6=0∨p % 6=1∨p % 6=2∨p % 6=3∨p % 6=4∨p % 6=5:=by omega
     by_cases hpq:p=j*6+2+q
     ·rw[hpq,List.getElem?_set_self (by omega),<-hpq]
      have hc2:p % 6=2+q:=by omega
      rw[hc2]
      have hq4:q=0∨q=1∨q=2∨q=3:=by omega
      rcases hq4 with rfl | rfl | rfl | rfl<;>simp[hdC,hij]
     ·rw[List.getElem?_set_ne (by omega),e2,hij]
      rcases hc with hc | hc | hc | hc | hc | hc<;>rw[hc]<;>simp[hdC]<;>intro e3<;>omega
    ·rw[if_neg hij,List.getElem?_set_ne (by omega),e2]
     simp[hij]
   ·rw[List.getElem?_eq_none (by simp only[List.length_set];omega),List.getElem?_eq_none (by omega)]
  rw[<-hx]
  exact r1
 ·intro i hi r hr2
  rw[List.length_set] at hi
  rw[getD_setN _ _ _ _ _ hj]
  by_cases hc:i=j∧r=q
  ·obtain⟨rfl,rfl⟩:=hc
   simp only[if_true,and_self]
   exact owns_fr hr hf3 (fun b hb e=>by rw[e] at hb;exact hvg hb)
  ·have hd:w2.ownsRow base (ety r) 1 (us i r) ((ns.getD i dN).l r).length ((ns.getD i dN).l r):=owns_fr (h.data i hi r hr2) hf2 (fun b hb e=>h.apart i r j q hi hj hr2 hq hc b hb e)
   have hd2:=owns_fr hd hf3 (fun b hb e=>by rw[e] at hb;exact own_neT h.row (h.data i hi r hr2) g hb rfl)
   simp only[hc,if_false]
   by_cases hij:i=j
   ·subst hij
    have hrq:¬ r=q:=fun e=>hc ⟨rfl,e⟩
    simp only[if_true,hrq,if_false]
    exact hd2
   ·simp only[hij,if_false]
    exact hd2
 ·intro i r k s hi hk hr2 hs hne b hb
  rw[List.length_set] at hi hk
  by_cases h1:i=j∧r=q<;>by_cases h2:k=j∧s=q
  ·exact absurd ⟨h1.1.trans h2.1.symm,h1.2.trans h2.2.symm⟩ hne
  ·simp only[h1,and_self,if_true] at hb
   simp only[h2,if_false]
   exact fun e=>hoth k s hk hs h2 b e hb
  ·simp only[h1,if_false] at hb
   simp only[h2,and_self,if_true]
   exact hoth i r hi hr2 h1 b hb
  ·simp only[h1,if_false] at hb
   simp only[h2,if_false]
   exact h.apart i r k s hi hk hr2 hs hne b hb
end Go.Proofs.YtkhglgalbifcnaaGreat
