import Derived.Test.YtkhglgalbifcnaaGreatGAA
import Derived.Test.YtkhglgalbifcnaaGreatGAU
import Derived.Test.YtkhglgalbifcnaaGreatGAV
import Derived.Test.YtkhglgalbifcnaaGreatGBL
import Derived.Test.YtkhglgalbifcnaaGreatIph
import Derived.Test.YtkhglgalbifcnaaGreatGBM
namespace Go.Proofs.YtkhglgalbifcnaaGreat
set_option maxHeartbeats 4000000
open Go.RowKit
set_option linter.unusedVariables false
set_option linter.unusedSimpArgs false
set_option maxRecDepth 100000
def pgOf (tx:Int) (c:PgC):PG:=⟨fun r=>if r=0 then .int .i64 c.kind else if r=1 then .int .i64 tx else if r<5 then .int .i64 0 else if r=7 then .int .i64 c.next else .string c.data,c.kids,c.ents⟩
def usOf (css:List (List Value)) (i r:Nat):Value:=(css.getD i []).getD (5+r) (.bool false)
theorem PgsO.own {w:World} {lo M:Nat} {tx:Int} {v:Value} {pl:List PgC} {css:List (List Value)} (h:PgsO w lo M tx v pl css):OwnG w lo v (pl.map (pgOf tx)) (usOf css):=by
 have hat:∀ i,i<pl.length->∃ c,pl[i]?=some c∧(pl.map (pgOf tx)).getD i dG=pgOf tx c∧PgIs (fun g=>¬ (lo<=g∧g<M)) w tx (css.getD i []) c∧css[i]?=some (css.getD i []):=fun i hi=>by
  have hil:i<css.length:=by have:=h.cl;omega
  obtain⟨c,e,q⟩:=h.pgs i _ (List.getElem?_eq_getElem hil)
  have e2:css.getD i []=css[i]:=by simp[List.getD,hil]
  refine⟨c,e,by simp[List.getD,e],by rw[e2];exact q,by rw[e2];exact List.getElem?_eq_getElem hil⟩
 have hbk:∀ i r g,i<pl.length->r<2->(usOf css i r).ownBlock=some g->KB (css.getD i []) g:=fun i r g hi hr e=>by
  have hc:r=0∨r=1:=by omega
  rcases hc with rfl | rfl
  ·exact .inl e
  ·exact .inr e
 have hll:(pl.map (pgOf tx)).length=pl.length:=List.length_map _
 refine⟨?_,fun i hi=>?_,fun i hi=>?_,fun i j r hi hj hr hne g e1 e2=>?_⟩
 ·have e:css.flatten=rowG (pl.map (pgOf tx)) (usOf css):=by
   unfold rowG
   congr 1
   apply List.ext_getElem?
   intro i
   rw[hll]
   by_cases hi:i<pl.length
   ·obtain⟨c,e0,e1,q,e3⟩:=hat i hi
    rw[e3,List.getElem?_map,List.getElem?_range hi]
    simp only[Option.map_some,Option.some.injEq]
    rw[e1]
    have hq:=q
    obtain⟨ka,kc,ea,ec,e2,_⟩:=q
    unfold pgRow usOf
    rw[e2]
    rfl
   ·rw[List.getElem?_eq_none (by have:=h.cl;omega),List.getElem?_eq_none (by simp;omega)]
  rw[hll,<-e]
  exact h.row
 ·rw[hll] at hi
  obtain⟨c,e0,e1,⟨ka,kc,ea,ec,e2,o1,o2,o3,o4⟩,e3⟩:=hat i hi
  rw[e1]
  have e4:usOf css i 0=.slice ka c.kids.length kc:=by unfold usOf;rw[e2];rfl
  rw[e4]
  exact own_raise o1 (fun g e=>(Classical.not_not.1 (o3 g e)).1)
 ·rw[hll] at hi
  obtain⟨c,e0,e1,⟨ka,kc,ea,ec,e2,o1,o2,o3,o4⟩,e3⟩:=hat i hi
  rw[e1]
  have e4:usOf css i 1=.slice ea c.ents.length ec:=by unfold usOf;rw[e2];rfl
  rw[e4]
  exact own_raise o2 (fun g e=>(Classical.not_not.1 (o4 g e)).1)
 ·rw[hll] at hi hj
  exact hne (h.ap i j _ _ g (hat i hi).choose_spec.2.2.2 (hat j hj).choose_spec.2.2.2 (hbk i r g hi hr e1) (hbk j r g hj hr e2))
theorem PgsO.blk {w:World} {lo M:Nat} {tx:Int} {v:Value} {pl:List PgC} {css:List (List Value)} (h:PgsO w lo M tx v pl css) {g:Nat} (hg:BlkG v (pl.map (pgOf tx)).length (usOf css) g):lo<=g∧g<M:=by
 rcases hg with e | ⟨i,r,hi,hr,e⟩
 ·exact⟨(h.row.lt g e).1,h.rb g e⟩
 ·rw[List.length_map] at hi
  have hil:i<css.length:=by have:=h.cl;omega
  obtain⟨c,e0,ka,kc,ea,ec,e2,o1,o2,o3,o4⟩:=h.pgs i _ (List.getElem?_eq_getElem hil)
  have e3:css.getD i []=css[i]:=by simp[List.getD,hil]
  unfold usOf at e
  rw[e3,e2] at e
  have hc:r=0∨r=1:=by omega
  rcases hc with rfl | rfl
  ·exact Classical.not_not.1 (o3 g e)
  ·exact Classical.not_not.1 (o4 g e)
theorem PgsO.fr {S:Nat->Prop} {w w':World} {lo M:Nat} {tx:Int} {v:Value} {pl:List PgC} {css:List (List Value)} (h:PgsO w lo M tx v pl css) (hf:Fr S w w') (hM:M<=w.heap.size) (hS:∀ g,S g->g<lo∨M<=g):PgsO w' lo M tx v pl css :=
 ⟨owns_fr h.row hf (fun g e e2=>by have h1:=(h.row.lt g e).1;have h2:=h.rb g e;have h3:=hS g e2;omega),h.rb,h.cl,fun i cs hi=>by
  obtain⟨c,e,q⟩:=h.pgs i cs hi
  exact⟨c,e,PgIs.keepZ (Z:=fun g=>lo<=g∧g<M) q (fun g hg=>.inr (hf.block g (by omega) (fun e=>by have:=hS g e;omega)))⟩,h.ap⟩
theorem PgsO.read {w:World} {lo M:Nat} {tx:Int} {pa:Option Addr} {m pc:Nat} {pl:List PgC} {css:List (List Value)} (h:PgsO w lo M tx (.slice pa m pc) pl css) (hm:pl.length=m):PgsAt w lo w.heap.size tx pa m pc pl:=by
 have h1:=h.row
 rw[hm] at h1
 have h9:∀ (i:Nat) cs,css[i]?=some cs->cs.length=9:=fun i cs hi=>by
  obtain⟨_,_,_,_,_,_,e,_⟩:=h.pgs i cs hi
  rw[e];rfl
 rcases h1.2 with ⟨e,_⟩ | ⟨g,cap,cur,e,hg,hgg,h4,h5,_⟩
 ·simp only[Value.slice.injEq] at e
  obtain⟨rfl,rfl,rfl⟩:=e
  exact⟨hm,Nat.le_refl _,Nat.zero_le _,fun h=>absurd h (Nat.lt_irrefl _)⟩
 ·simp only[Value.slice.injEq,true_and] at e
  obtain⟨rfl,rfl⟩:=e
  refine⟨hm,h4,h5,fun hn=>⟨g,0,rfl,h1.lt g rfl,fun i c hi=>?_⟩⟩
  have hil:i<css.length:=by have:=(List.getElem?_eq_some_iff.1 hi).1;have:=h.cl;omega
  obtain⟨c',e1,ka,kc,ea,ec,e2,o1,o2,o3,o4⟩:=h.pgs i _ (List.getElem?_eq_getElem hil)
  have hc:c'=c:=by rw[e1] at hi;simpa using hi
  subst hc
  obtain⟨_,_,q1,r1⟩:=RowsAt.of_owns (fit:=fun _=>True) (d:=dK) kc2 (own_raise (lo:=lo) o1 (fun g e=>(Classical.not_not.1 (o3 g e)).1)) rfl (fun _ _=>trivial)
  obtain⟨_,_,q2,r2⟩:=RowsAt.of_owns (fit:=fun _=>True) (d:=dE) ec4 (own_raise (lo:=lo) o2 (fun g e=>(Classical.not_not.1 (o4 g e)).1)) rfl (fun _ _=>trivial)
  cases q1
  cases q2
  refine⟨ka,kc,ea,ec,fun j hj=>?_,r1,r2⟩
  have hlen:i*9+j<m*9:=by have:=h.cl;omega
  rw[Nat.zero_add,h1.cellAt (i*9+j) hlen,flatten_get h9 i _ (List.getElem?_eq_getElem hil) j hj,e2]
theorem PgAt.nine {w:World} {A B:Nat} {tx:Int} {b o:Nat} {c:PgC} (h:PgAt w A B tx b o c):∃ ka kc ea ec,(∀ V:World,V.heap[b]?=w.heap[b]?->V.cell? ⟨b,o,none⟩=some (.int .i64 c.kind)∧V.cell? ⟨b,o+1,none⟩=some (.int .i64 tx)∧V.cell? ⟨b,o+2,none⟩=some (.int .i64 0)∧V.cell? ⟨b,o+3,none⟩=some (.int .i64 0)∧V.cell? ⟨b,o+4,none⟩=some (.int .i64 0)∧V.cell? ⟨b,o+5,none⟩=some (.slice ka c.kids.length kc)∧V.cell? ⟨b,o+6,none⟩=some (.slice ea c.ents.length ec)∧V.cell? ⟨b,o+7,none⟩=some (.int .i64 c.next)∧V.cell? ⟨b,o+8,none⟩=some (.string c.data))∧RowsAt w A B 2 kidCells (fun _=>True) dK ka c.kids.length kc c.kids∧RowsAt w A B 4 entCells (fun _=>True) dE ea c.ents.length ec c.ents:=by
 obtain⟨ka,kc,ea,ec,hc,h1,h2⟩:=h
 refine⟨ka,kc,ea,ec,fun V hV=>?_,h1,h2⟩
 have hg:=fun j hj=>(World.cell?_of_block (w:=w) (w':=V) (a:=⟨b,o+j,none⟩) hV).trans (hc j hj)
 exact⟨hg 0 (by omega),hg 1 (by omega),hg 2 (by omega),hg 3 (by omega),hg 4 (by omega),hg 5 (by omega),hg 6 (by omega),hg 7 (by omega),hg 8 (by omega)⟩
theorem eqPageS_same (tx:Int) (a:Option Addr) (n c:Nat) (a2:Option Addr) (c2:Nat) (l:List PgC) (w:World) (A B A2 B2:Nat) (hB:B<=w.heap.size) (hB2:B2<=w.heap.size) (h:PgsAt w A B tx a n c l) (k:PgsAt w A2 B2 tx a2 n c2 l) :
  Calls Tryz.prog 29 #[.slice a n c,.slice a2 n c2] w fun e w'=>e=.returned (.bool true)∧Below w.heap.size w w':=by
 have hnn:((n:Int) != (n:Int))=false:=by simp
 have hc:=h.2.2.1
 have hnc:=h.2.1
 have hc2:=k.2.2.1
 have hnc2:=k.2.1
 unfold maxLen at hc hc2
 have H1:Hid (∀ V,Below w.heap.size w V->PgsAt V A B tx a n c l):=fun V hV=>h.below (hV.mono hB)
 have H2:Hid (∀ V,Below w.heap.size w V->PgsAt V A2 B2 tx a2 n c2 l):=fun V hV=>k.below (hV.mono hB2)
 have HL:Hid (l.length=n):=h.1
 clear h k
 go_enter Tryz.func29,Tryz.ntmps29
 go_wp2_with fail
 go_loopw [5] (fun i wr=>∃ j:Nat,j<=n∧i=.int .i64 j∧Hid (Below w.heap.size w wr)) (fun i _=>n - (intOf i).toNat)
 case atStart=>exact⟨0,Nat.zero_le _,rfl,Below.refl _ _⟩
 case round =>
  obtain⟨j,hj,rfl,HBr⟩:=hrel
  have hsr:=HBr.out.size
  by_cases hlt:j<n
  ·obtain⟨b,off,rfl,hlb,hat⟩:=(H1.out wr HBr.out).2.2.2 (by omega)
   obtain⟨b2,off2,rfl,hlb2,hat2⟩:=(H2.out wr HBr.out).2.2.2 (by omega)
   obtain⟨pg,hpg⟩:∃ pg,l[j]?=some pg:=⟨_,List.getElem?_eq_getElem (by have:=HL.out;omega)⟩
   obtain⟨ka,kc,ea,ec,hcl,hK,hE⟩:=(hat j pg hpg).nine
   obtain⟨ka2,kc2,ea2,ec2,hcl2,hK2,hE2⟩:=(hat2 j pg hpg).nine
   obtain⟨kd,ek⟩:∃ kd,pg.kind=kd:=⟨_,rfl⟩
   obtain⟨nx,en⟩:∃ nx,pg.next=nx:=⟨_,rfl⟩
   obtain⟨dd,ed⟩:∃ dd,pg.data=dd:=⟨_,rfl⟩
   obtain⟨km,ekm⟩:∃ km,pg.kids.length=km:=⟨_,rfl⟩
   obtain⟨em,eem⟩:∃ em,pg.ents.length=em:=⟨_,rfl⟩
   rw[ekm] at hK hK2
   rw[eem] at hE hE2
   rw[ek,en,ed,ekm,eem] at hcl hcl2
   have HC1:=Hid.i hcl
   have HC2:=Hid.i hcl2
   have hq:=fun (V:World) (hV:Below wr.heap.size wr V)=>eqPage_same kd tx 0 0 0 ka km kc pg.kids ea em ec pg.ents ka2 kc2 ea2 ec2 nx dd V A B A2 B2 (by have:=hV.size;omega) (by have:=hV.size;omega) (hK.keep (.of_below (hV.mono (by omega)))) (hE.keep (.of_below (hV.mono (by omega)))) (hK2.keep (.of_below (hV.mono (by omega)))) (hE2.keep (.of_below (hV.mono (by omega))))
   have HQ:=Hid.i hq
   have lb:b<wr.heap.size:=by omega
   have lb2:b2<wr.heap.size:=by omega
   clear hcl hcl2 hq hK hE hK2 hE2 hat hat2 hpg ek en ed ekm eem
   go_upto_region 6 with fail
   have bV0:=(Below.refl wr.heap.size wr).drew
   refine wp_region_noPanic ?_
   refine wp_region_held_drew (S:=(fun V:World=>V.heap[b]?=wr.heap[b]?∧V.heap[b2]?=wr.heap[b2]?)) (by kernel_rfl) (⟨rfl,rfl⟩) (fun hHeld=>?_)
   clear hHeld
   generalize wr.drew=V at bV0 ⊢
   have hHeld:V.heap[b]?=wr.heap[b]?∧V.heap[b2]?=wr.heap[b2]?:=⟨bV0.block b lb,bV0.block b2 lb2⟩
   have lbV:b<V.heap.size:=Nat.lt_of_lt_of_le lb bV0.size
   have lb2V:b2<V.heap.size:=Nat.lt_of_lt_of_le lb2 bV0.size
   refine tY 0 (.slice (some ⟨b,off,none⟩) n c) .z (by kernel_rfl) (by rfl) ?_ ‹_› ?_
   ·intro wq hSw;go_simp
   refine tY 1 (.int .i64 (j:Int)) (.s .z) (by kernel_rfl) (by rfl) ?_ ‹_› ?_
   ·intro wq hSw;go_simp
   refine tY 2 (.pointer (some ⟨b,off+j*9,none⟩)) (.s (.s .z)) (by kernel_rfl) (by rfl) ?_ ‹_› ?_
   ·intro wq hSw;go_simp
   refine tY 3 (.agg #[.int .i64 kd,.int .i64 tx,.int .i64 0,.int .i64 0,.int .i64 0,.slice ka km kc,.slice ea em ec,.int .i64 nx,.string dd]) (.s (.s (.s .z))) (by kernel_rfl) (by rfl) ?_ ‹_› ?_
   ·intro wq hSw;(try dsimp only at hSw);obtain⟨y0,y1,y2,y3,y4,y5,y6,y7,y8⟩:=HC1.out wq hSw.1;go_simp
   try simp only[Act.put,q1,q2,q3]
   refine tY 4 (.slice (some ⟨b2,off2,none⟩) n c2) (.s (.s (.s (.s .z)))) (by kernel_rfl) (by rfl) ?_ ‹_› ?_
   ·intro wq hSw;go_simp
   refine tY 5 (.int .i64 (j:Int)) (.f .z) (by kernel_rfl) (by rfl) ?_ ‹_› ?_
   ·intro wq hSw;go_simp
   refine tY 6 (.pointer (some ⟨b2,off2+j*9,none⟩)) (.f (.s .z)) (by kernel_rfl) (by rfl) ?_ ‹_› ?_
   ·intro wq hSw;go_simp
   refine tY 7 (.agg #[.int .i64 kd,.int .i64 tx,.int .i64 0,.int .i64 0,.int .i64 0,.slice ka2 km kc2,.slice ea2 em ec2,.int .i64 nx,.string dd]) (.f (.s (.s .z))) (by kernel_rfl) (by rfl) ?_ ‹_› ?_
   ·intro wq hSw;(try dsimp only at hSw);obtain⟨y0,y1,y2,y3,y4,y5,y6,y7,y8⟩:=HC2.out wq hSw.2;go_simp
   try simp only[Act.put,q1,q2,q3]
   refine wpAnyH_ready (rs:=[8]) (by kernel_rfl) (by simp) ?_
   refine rdA (.f (.s (.s (.s .z)))) (fun K hK=>?_) AllReadyH.nil
   go_simp
   refine (HQ.out V bV0).mono ?_
   rintro e w1 ⟨rfl,hb1⟩
   have HB1:Hid (Below w.heap.size w w1):=HBr.out.trans ((bV0.mono (by omega)).trans (hb1.mono (by have:=bV0.size;omega)))
   have hk1:=(hb1.block b lbV).trans hHeld.1
   have hk2:=(hb1.block b2 lb2V).trans hHeld.2
   clear hb1
   go_wp2_with fail
   refine hK.out _ _ (⟨hk1,hk2⟩) (fun hHeld=>?_)
   clear hK K
   refine tY 9 (.bool false) (.f (.s (.s (.s (.s .z))))) (by kernel_rfl) (by rfl) ?_ ‹_› ?_
   ·intro wq hSw;go_simp
   try simp only[Act.put,q1,q2,q3]
   refine wpAnyH_done (by kernel_rfl) ?_ _
   refine NoPanic.normal ?_
   clear hHeld hk1 hk2 bV0
   go_wp2_with fail
   go_roundw
   case rel=>exact⟨j+1,by omega,by go_num,HB1⟩
   case measure=>simp[intOf];omega
  ·obtain rfl:j=n:=by omega
   go_wp2_with fail
   go_ret
   exact⟨rfl,HBr.out⟩
theorem alloc2I (w:World) (a b:Obj):((w.alloc a).alloc b).heap[w.heap.size]?=some a∧((w.alloc a).alloc b).heap[w.heap.size+1]?=some b∧((w.alloc a).alloc b).heap.size=w.heap.size+2∧Below w.heap.size w ((w.alloc a).alloc b):=by
 have b1:=(Below.refl (w.alloc a).heap.size _).alloc (Nat.le_refl _) b
 have s1:(w.alloc a).heap.size=w.heap.size+1:=by simp
 have e1:=heap_alloc_new (w.alloc a) b
 rw[s1] at e1
 exact⟨(b1.block w.heap.size (by omega)).trans (heap_alloc_new w a),e1,by simp,((Below.refl _ _).alloc (Nat.le_refl _) _).alloc (by simp) _⟩
theorem eqPlaced_same {fit fit2:Int->Prop} (tx:Int) (a:Option Addr) (n c:Nat) (pa:Option Addr) (m pc:Nat) (na:Option Addr) (q nc:Nat) (a2:Option Addr) (c2:Nat) (pa2:Option Addr) (pc2:Nat) (na2:Option Addr) (nc2:Nat) (ts:List TN) (l:List PgC) (xs:List Int) (w:World) (A B A2 B2 C D C2 D2:Nat) (hB:B<=w.heap.size) (hB2:B2<=w.heap.size) (hD:D<=w.heap.size) (hD2:D2<=w.heap.size) (h:NodesAt w A B a n c ts) (k:NodesAt w A2 B2 a2 n c2 ts) (h2:PgsAt w C D tx pa m pc l) (k2:PgsAt w C2 D2 tx pa2 m pc2 l) (h3:RowsAt w C D 1 intCells fit 0 na q nc xs) (k3:RowsAt w C2 D2 1 intCells fit2 0 na2 q nc2 xs) :
  Calls Tryz.prog 9 #[.agg #[.slice a n c,.slice pa m pc,.slice na q nc],.agg #[.slice a2 n c2,.slice pa2 m pc2,.slice na2 q nc2]] w fun e w'=>e=.returned (.bool true)∧Below w.heap.size w w':=by
 obtain⟨W,hW⟩:∃ W,W=(w.alloc (.cells #[.slice a n c,.slice pa m pc,.slice na q nc] 32)).alloc (.cells #[.slice a2 n c2,.slice pa2 m pc2,.slice na2 q nc2] 32):=⟨_,rfl⟩
 have al:=alloc2I w (.cells #[.slice a n c,.slice pa m pc,.slice na q nc] 32) (.cells #[.slice a2 n c2,.slice pa2 m pc2,.slice na2 q nc2] 32)
 rw[<-hW] at al
 obtain⟨k0,k1,sW,bW⟩:=al
 obtain⟨N,hN⟩:∃ N,w.heap.size=N:=⟨_,rfl⟩
 have HH:Hid (∀ V,Below N w V->NodesAt V A B a n c ts∧NodesAt V A2 B2 a2 n c2 ts∧PgsAt V C D tx pa m pc l∧PgsAt V C2 D2 tx pa2 m pc2 l∧RowsAt V C D 1 intCells fit 0 na q nc xs∧RowsAt V C2 D2 1 intCells fit2 0 na2 q nc2 xs):=fun V hV=>⟨h.below (hV.mono (by omega)),k.below (hV.mono (by omega)),h2.below (hV.mono (by omega)),k2.below (hV.mono (by omega)),h3.below (hV.mono (by omega)),k3.below (hV.mono (by omega))⟩
 rw[hN] at k0 k1 sW bW ⊢
 have HK0:=Hid.i k0
 have HK1:=Hid.i k1
 have hc:=eqTree_same a n c a2 c2 ts W A B A2 B2 (by omega) (by omega) (HH.out W bW).1 (HH.out W bW).2.1
 obtain⟨p0,p1,p2⟩:=box3P k0
 obtain⟨p3,p4,p5⟩:=box3P k1
 have l0:N<W.heap.size:=by omega
 have l1:N+1<W.heap.size:=by omega
 clear h k h2 k2 h3 k3 k0 k1
 go_enter Tryz.func9,Tryz.ntmps9
 go_upto_region 1 with fail
 rw[<-hW]
 clear hW
 go_wp2_with fail
 refine hc.mono ?_
 rintro e w1 ⟨rfl,hb1⟩
 have g1:=bW.trans (hb1.mono (by omega))
 have s1:=hb1.size
 clear p0 p1 p2 p3 p4 p5 hc
 obtain⟨p0,p1,p2⟩:=box3P ((hb1.block N l0).trans HK0.out)
 obtain⟨p3,p4,p5⟩:=box3P ((hb1.block (N+1) l1).trans HK1.out)
 have m0:N<w1.heap.size:=by omega
 have m1:N+1<w1.heap.size:=by omega
 have hc:=eqPageS_same tx pa m pc pa2 pc2 l w1 C D C2 D2 (by omega) (by omega) (HH.out w1 g1).2.2.1 (HH.out w1 g1).2.2.2.1
 go_wp2_with fail
 refine hc.mono ?_
 rintro e w2 ⟨rfl,hb2⟩
 have g2:=g1.trans (hb2.mono (by omega))
 have s2:=hb2.size
 have b12:=hb1.trans (hb2.mono s1)
 clear p0 p1 p2 p3 p4 p5 hc
 obtain⟨p0,p1,p2⟩:=box3P ((b12.block N l0).trans HK0.out)
 obtain⟨p3,p4,p5⟩:=box3P ((b12.block (N+1) l1).trans HK1.out)
 have o0:N<w2.heap.size:=by omega
 have o1:N+1<w2.heap.size:=by omega
 have hc:=eqInt64S_same na q nc na2 nc2 xs w2 C D C2 D2 (by omega) (by omega) (HH.out w2 g2).2.2.2.2.1 (HH.out w2 g2).2.2.2.2.2
 go_wp2_with fail
 refine hc.mono ?_
 rintro e w3 ⟨rfl,hb3⟩
 have HB:Hid (Below N w w3):=g2.trans (hb3.mono (by omega))
 clear hc hb3 p0 p1 p2 p3 p4 p5
 go_wp2_with fail
 go_ret
 exact⟨rfl,HB.out⟩
def BlkP (v:Value) (n:Nat) (us:Nat->Nat->Value) (pv:Value) (m:Nat) (ps:Nat->Nat->Value) (nv:Value) (g:Nat):Prop:=BlkT v n us g∨BlkG pv m ps g∨nv.ownBlock=some g
theorem markPlaced_own (a:Option Addr) (n c:Nat) (pa:Option Addr) (m pc:Nat) (na:Option Addr) (q nc:Nat) (k lo M:Nat) (ns:List ND) (us:Nat->Nat->Value) (gs:List PG) (ps:Nat->Nat->Value) (xs:List Value) (w:World) (h:OwnT w M (.slice a n c) ns us) (h2:OwnG w lo (.slice pa m pc) gs ps) (h3:w.ownsRow lo 2 1 (.slice na q nc) q xs) (hn:n=ns.length) (hm:m=gs.length) (hg:∀ g,BlkG (.slice pa m pc) gs.length ps g->g<M) (hq:∀ g,(Value.slice na q nc).ownBlock=some g->g<M) (hk:kG (kT k ns) gs+q<=1000000000) :
  Calls Tryz.prog 14 #[.agg #[.slice a n c,.slice pa m pc,.slice na q nc],.int .i64 k] w fun e w'=>e=.returned (.int .i64 ((kG (kT k ns) gs+q:Nat):Int))∧(OwnT w' M (.slice a n c) (mkNs k ns) us∧OwnG w' lo (.slice pa m pc) (mkGs (kT k ns) gs) ps∧w'.ownsRow lo 2 1 (.slice na q nc) q (rowsOf intCells (mkIs (kG (kT k ns) gs) q)))∧Fr (BlkP (.slice a n c) ns.length us (.slice pa m pc) gs.length ps (.slice na q nc)) w w':=by
 have hb1:Below w.heap.size w (w.alloc (.cells #[.slice a n c,.slice pa m pc,.slice na q nc] 32)):=(Below.refl _ _).alloc (Nat.le_refl _) _
 have k0:=heap_alloc_new w (.cells #[.slice a n c,.slice pa m pc,.slice na q nc] 32)
 obtain⟨N,hN⟩:∃ N,w.heap.size=N:=⟨_,rfl⟩
 have HN:Hid (n=ns.length∧m=gs.length):=⟨hn,hm⟩
 have hkG:=kG_le (kT k ns) gs
 have hkT:=kT_le k ns
 have hK1:kT k ns<=1000000000:=by omega
 have hc:=markTree_own a n c k M ns us _ (h.below hb1) hn hK1
 have HG:Hid ((∀ g,BlkG (.slice pa m pc) gs.length ps g->g<M∧g<N)∧(∀ g,(Value.slice na q nc).ownBlock=some g->g<M∧g<N)∧(∀ g,BlkG (.slice pa m pc) gs.length ps g->(Value.slice na q nc).ownBlock≠some g)∧∀ g,BlkT (.slice a n c) ns.length us g->M<=g∧g<N):=by
  refine⟨fun g e=>⟨hg g e,hN ▸ (h2.blk e).2⟩,fun g e=>⟨hq g e,hN ▸ (h3.lt g e).2⟩,fun g e e2=>?_,fun g e=>hN ▸ h.blk e⟩
  rcases e with e | ⟨i,r,hi,hr,e⟩
  ·exact rows_neG h2.row h3 (by decide) e e2
  ·have hcc:r=0∨r=1:=by omega
   rcases hcc with rfl | rfl
   ·exact rows_neG (h2.kid i hi) h3 (by decide) e e2
   ·exact rows_neG (h2.ent i hi) h3 (by decide) e e2
 have H2:=Hid.i (h2.below hb1)
 have H3:=Hid.i (owns_below h3 hb1)
 obtain⟨kt,hkt⟩:∃ kt,kT k ns=kt:=⟨_,rfl⟩
 obtain⟨kg,hkg⟩:∃ kg,kG (kT k ns) gs=kg:=⟨_,rfl⟩
 have HKT:Hid (kT k ns=kt):=hkt
 have HKG:Hid (kG kt gs=kg):=by show _=_;rw[<-hkt];exact hkg
 rw[hkg] at hk ⊢
 rw[hkt] at hc ⊢
 have hkg9:kg+q<=1000000000:=hk
 clear hk hkg hkt hkG hkT hK1 hn hm hg hq h2 h3
 go_enter Tryz.func14,Tryz.ntmps14
 go_upto_region 1 with fail
 generalize w.alloc (.cells #[.slice a n c,.slice pa m pc,.slice na q nc] 32)=W1 at hb1 k0 hc H2 H3 ⊢
 rw[hN] at k0
 have l0:=(Array.getElem?_eq_some_iff.1 k0).1
 have HK0:=Hid.i k0
 obtain⟨p0,p1,p2⟩:=box3P k0
 clear h k0
 go_wp2_with fail
 refine hc.mono ?_
 rintro e w2 ⟨rfl,hO2,hF2⟩
 have O2:=Hid.i hO2
 have nT:∀ g,BlkT (.slice a n c) ns.length us g->M<=g∧g<N:=HG.out.2.2.2
 have G2:=Hid.i (H2.out.fr hF2 (fun g e e2=>by have h1:=(HG.out.1 g e).1;have h4:=(nT g e2).1;omega))
 have R2:=Hid.i (owns_fr H3.out hF2 (fun g e e2=>by have h1:=(HG.out.2.1 g e).1;have h4:=(nT g e2).1;omega))
 have k2:=(hF2.block N l0 (fun e=>by have:=(nT N e).2;omega)).trans HK0.out
 have HF2:Hid (Fr (BlkP (.slice a n c) ns.length us (.slice pa m pc) gs.length ps (.slice na q nc)) w w2):=(Fr.of_below hb1).trans (hF2.weak (fun g e=>.inl e))
 have s2:=hF2.size
 have HK2:=Hid.i k2
 clear hc p0 p1 p2 hO2 hF2 nT H2 H3
 obtain⟨p0,p1,p2⟩:=box3P k2
 have l2:N<w2.heap.size:=by omega
 have hc:=markPageS_own pa m pc kt lo gs ps w2 G2.out HN.out.2 (by rw[HKG.out];omega)
 rw[HKG.out] at hc
 clear k2
 go_wp2_with fail
 refine hc.mono ?_
 rintro e w3 ⟨rfl,hG3,hF3⟩
 have G3:=Hid.i hG3
 have O3:=Hid.i (O2.out.fr hF3 (fun g e e2=>by rw[mkNs_length] at e;have h1:=(HG.out.1 g e2).1;have h4:=(HG.out.2.2.2 g e).1;omega))
 have R3:=Hid.i (owns_fr R2.out hF3 (fun g e e2=>HG.out.2.2.1 g e2 e))
 have k3:=(hF3.block N l2 (fun e=>by have:=(HG.out.1 N e).2;omega)).trans HK2.out
 have HF3:Hid (Fr (BlkP (.slice a n c) ns.length us (.slice pa m pc) gs.length ps (.slice na q nc)) w w3):=HF2.out.trans (hF3.weak (fun g e=>.inr (.inl e)))
 have s3:=hF3.size
 clear hc p0 p1 p2 hG3 hF3 O2 R2 G2 HF2
 obtain⟨p0,p1,p2⟩:=box3P k3
 have l3:N<w3.heap.size:=by omega
 have hc:=markInt64S_own na q nc kg lo xs w3 R3.out (by omega)
 clear k3
 go_wp2_with fail
 refine hc.mono ?_
 rintro e w4 ⟨rfl,hR4,hF4⟩
 have HE:Hid ((OwnT w4 M (.slice a n c) (mkNs k ns) us∧OwnG w4 lo (.slice pa m pc) (mkGs kt gs) ps∧w4.ownsRow lo 2 1 (.slice na q nc) q (rowsOf intCells (mkIs kg q)))∧Fr (BlkP (.slice a n c) ns.length us (.slice pa m pc) gs.length ps (.slice na q nc)) w w4):=by
  refine⟨⟨O3.out.fr hF4 (fun g e e2=>by rw[mkNs_length] at e;have h1:=(HG.out.2.1 g e2.symm).1;have h4:=(HG.out.2.2.2 g e).1;omega),G3.out.fr hF4 (fun g e e2=>by rw[mkGs_length] at e;exact HG.out.2.2.1 g e e2.symm),hR4⟩,HF3.out.trans (hF4.weak (fun g e=>.inr (.inr e.symm)))⟩
 clear hc p0 p1 p2 hR4 hF4 O3 R3 G3 HF3
 go_wp2_with fail
 go_ret
 exact⟨rfl,HE.out⟩
theorem heldPlaced_own (a:Option Addr) (n c:Nat) (pa:Option Addr) (m pc:Nat) (na:Option Addr) (q nc:Nat) (k lo M:Nat) (ns:List ND) (us:Nat->Nat->Value) (gs:List PG) (ps:Nat->Nat->Value) (w:World) (h:OwnT w M (.slice a n c) (mkNs k ns) us) (h2:OwnG w lo (.slice pa m pc) (mkGs (kT k ns) gs) ps) (h3:w.ownsRow lo 2 1 (.slice na q nc) q (rowsOf intCells (mkIs (kG (kT k ns) gs) q))) (hn:n=ns.length) (hm:m=gs.length) (hk:kG (kT k ns) gs+q<=1000000000) :
  Calls Tryz.prog 15 #[.agg #[.slice a n c,.slice pa m pc,.slice na q nc],.int .i64 k] w fun e w'=>e=.returned (.int .i64 ((kG (kT k ns) gs+q:Nat):Int))∧Below w.heap.size w w':=by
 have hb1:Below w.heap.size w (w.alloc (.cells #[.slice a n c,.slice pa m pc,.slice na q nc] 32)):=(Below.refl _ _).alloc (Nat.le_refl _) _
 have k0:=heap_alloc_new w (.cells #[.slice a n c,.slice pa m pc,.slice na q nc] 32)
 obtain⟨N,hN⟩:∃ N,w.heap.size=N:=⟨_,rfl⟩
 have HN:Hid (n=ns.length∧m=gs.length):=⟨hn,hm⟩
 have hkG:=kG_le (kT k ns) gs
 have hK1:kT k ns<=1000000000:=by omega
 have hc:=heldTree_own a n c k M ns us _ (h.below hb1) hn hK1
 have H2:Hid (∀ V,Below w.heap.size w V->OwnG V lo (.slice pa m pc) (mkGs (kT k ns) gs) ps):=fun V hV=>h2.below hV
 have H3:Hid (∀ V,Below w.heap.size w V->V.ownsRow lo 2 1 (.slice na q nc) q (rowsOf intCells (mkIs (kG (kT k ns) gs) q))):=fun V hV=>owns_below h3 hV
 obtain⟨kt,hkt⟩:∃ kt,kT k ns=kt:=⟨_,rfl⟩
 rw[hkt] at hc H2 H3 hk hkG ⊢
 obtain⟨kg,hkg⟩:∃ kg,kG kt gs=kg:=⟨_,rfl⟩
 have HKG:Hid (kG kt gs=kg):=hkg
 rw[hkg] at H3 hk ⊢
 have hd0:decide ((kt:Int)<0)=false:=by simp
 have hd1:decide ((kg:Int)<0)=false:=by simp
 have hd2:decide (((kg+q:Nat):Int)<0)=false:=by simp;omega
 have hkg9:kg+q<=1000000000:=hk
 clear hk hkg hkt hkG hK1 hn hm h h2 h3
 go_enter Tryz.func15,Tryz.ntmps15
 go_upto_region 1 with fail
 generalize w.alloc (.cells #[.slice a n c,.slice pa m pc,.slice na q nc] 32)=W1 at hb1 k0 hc ⊢
 rw[hN] at k0
 have l0:=(Array.getElem?_eq_some_iff.1 k0).1
 have HK0:=Hid.i k0
 obtain⟨p0,p1,p2⟩:=box3P k0
 clear k0
 go_wp2_with fail
 refine hc.mono ?_
 rintro e w2 ⟨rfl,hb2⟩
 have g2:=hb1.trans (hb2.mono hb1.size)
 have s2:=hb2.size
 clear hc p0 p1 p2
 obtain⟨p0,p1,p2⟩:=box3P ((hb2.block N l0).trans HK0.out)
 have l2:N<w2.heap.size:=by omega
 have hc:=heldPageS_own pa m pc kt lo gs ps w2 (H2.out w2 g2) HN.out.2 (by rw[HKG.out];omega)
 rw[HKG.out] at hc
 go_wp2_with fail
 refine hc.mono ?_
 rintro e w3 ⟨rfl,hb3⟩
 have g3:=g2.trans (hb3.mono g2.size)
 have b13:=hb2.trans (hb3.mono s2)
 have s3:=hb3.size
 clear hc p0 p1 p2
 obtain⟨p0,p1,p2⟩:=box3P ((b13.block N l0).trans HK0.out)
 have l3:N<w3.heap.size:=by omega
 have hc:=heldInt64S_own na q nc kg lo w3 (H3.out w3 g3) (by omega)
 go_wp2_with fail
 refine hc.mono ?_
 rintro e w4 ⟨rfl,hb4⟩
 have HE:Hid (Below w.heap.size w w4):=g3.trans (hb4.mono g3.size)
 clear hc p0 p1 p2 hb4
 go_wp2_with fail
 go_ret
 exact⟨rfl,HE.out⟩
def shortNI (x:TN):Prop:=x.keys.length<=4∧x.vals.length<=4∧x.over.length<=4∧x.kids.length<=4
theorem offs_memI {x:TN}:∀ (gs:List (Nat->List TN)) (s:Nat),x ∈ offs s gs->∃ g ∈ gs,∃ s',x ∈ g s'
 | [],s,h=>by simp[offs] at h
 | g::r,s,h=>by
  rw[offs,List.mem_append] at h
  rcases h with h | h
  ·exact⟨g,List.mem_cons_self ..,s,h⟩
  ·obtain⟨g',hg,s',hx⟩:=offs_memI r _ h
   exact⟨g',List.mem_cons_of_mem _ hg,s',hx⟩
theorem startsN_lenI:∀ (l:List Nat) (s:Nat),(startsN s l).length=l.length
 | [],s=>rfl
 | x::r,s=>by simp only[startsN,List.length_cons,startsN_lenI r]
theorem flat_shortI (t:T):(∃ r,t.good r=true)->∀ s,∀ x ∈ t.flat s,shortNI x:=by
 induction t using T.ind with
 | h t ih =>
  rintro ⟨r,hg⟩ s x hx
  have hg0:=hg
  rw[T.good_eq] at hg
  simp only[Bool.and_eq_true,decide_eq_true_eq] at hg
  rw[T.flat_eq] at hx
  cases hl:t.leaf
  ·rw[hl] at hx
   simp only[Bool.false_eq_true,if_false,List.mem_cons] at hx
   have hsz:t.kids.length<=4:=by have:=hg.1.1.1.1.2;simpa[T.size,hl] using this
   rcases hx with rfl | hx
   ·exact⟨by simp;omega,by simp,by simp,by rw[startsN_lenI,List.length_map];exact hsz⟩
   ·obtain⟨g,hgm,s',hx⟩:=offs_memI _ _ hx
    obtain⟨k,hk,rfl⟩:=List.mem_map.1 hgm
    exact ih k hk ⟨false,good_kid hg0 hk⟩ s' x hx
  ·rw[hl] at hx hg
   simp only[if_true,List.mem_singleton] at hx
   subst hx
   have hsz:t.keys.length<=4:=by have:=hg.1.1.1.1.2;simpa[T.size,hl] using this
   have h3:=hg.1.1.2
   simp only[Bool.not_true,Bool.false_or,Bool.and_eq_true,decide_eq_true_eq] at h3
   exact⟨hsz,by show t.vals.length<=4;omega,by show t.over.length<=4;omega,by simp⟩
theorem ndLen_shortI {x:TN} (h:shortNI x):ndLen x.nd<=18:=by
 obtain⟨h3,h4,h5,h6⟩:=h
 show 2+(rowsOf strCells x.keys).length+(rowsOf strCells x.vals).length+(rowsOf intCells x.over).length+(rowsOf intCells x.kids).length<=18
 rw[rows_len1 sc1,rows_len1 sc1,rows_len1 ic1,rows_len1 ic1]
 omega
theorem kT_shortI:∀ (ts:List TN) (k:Nat),(∀ x ∈ ts,shortNI x)->kT k (ts.map TN.nd)<=k+18*ts.length
 | [],k,h=>by simp[kT]
 | x::r,k,h=>by
  have h2:=kT_shortI r (k+ndLen x.nd) (fun y hy=>h y (List.mem_cons_of_mem _ hy))
  have h3:=ndLen_shortI (h x (List.mem_cons_self ..))
  simp only[List.map_cons,kT,List.length_cons]
  omega
theorem OwnT.nodesI {w:World} {base n c:Nat} {a:Option Addr} {ts:List TN} {us:Nat->Nat->Value} (h:OwnT w base (.slice a n c) (ts.map TN.nd) us) (hn:n=ts.length) {w2:World} {A2 B2 c2:Nat} {a2:Option Addr} (hS:NodesAt w2 A2 B2 a2 n c2 ts):NodesAt w base w.heap.size a n c ts:=by
 have hl:(ts.map TN.nd).length=n:=by rw[List.length_map,hn]
 rcases h.row.2 with ⟨e,e2⟩ | ⟨g,cap,cur,e,hg1,hg2,h1,h2,_⟩
 ·simp only[Value.slice.injEq] at e
  obtain⟨rfl,rfl,rfl⟩:=e
  exact⟨hn.symm,Nat.le_refl _,by unfold maxLen;exact Nat.zero_le _,fun h0=>absurd h0 (by omega)⟩
 ·simp only[Value.slice.injEq] at e
  obtain⟨rfl,_,rfl⟩:=e
  refine⟨hn.symm,by omega,h2,fun h0=>⟨g,0,rfl,h.row.lt g rfl,fun i hi=>?_⟩⟩
  have hil:i<(ts.map TN.nd).length:=by omega
  have hg:(ts.map TN.nd).getD i dN=TN.nd (ts.getD i dT):=by simp[List.getD,show i<ts.length by omega]
  have hcell:=fun j hj=>h.cell (i:=i) (j:=j) hil hj
  have hd:=h.data i hil
  rw[hg] at hcell hd
  obtain⟨b2,off2,_,_,hN⟩:=hS.2.2.2 h0
  obtain⟨ka,kn,kc,va,vn,vc,oa,on,oc,ya,yn,yc,hT⟩:=hN i hi
  have d0:=hd 0 (by omega)
  have d1:=hd 1 (by omega)
  have d2:=hd 2 (by omega)
  have d3:=hd 3 (by omega)
  replace d0:w.ownsRow base 9 1 (us i 0) (rowsOf strCells (ts.getD i dT).keys).length (rowsOf strCells (ts.getD i dT).keys):=d0
  replace d1:w.ownsRow base 9 1 (us i 1) (rowsOf strCells (ts.getD i dT).vals).length (rowsOf strCells (ts.getD i dT).vals):=d1
  replace d2:w.ownsRow base 2 1 (us i 2) (rowsOf intCells (ts.getD i dT).over).length (rowsOf intCells (ts.getD i dT).over):=d2
  replace d3:w.ownsRow base 2 1 (us i 3) (rowsOf intCells (ts.getD i dT).kids).length (rowsOf intCells (ts.getD i dT).kids):=d3
  rw[rows_len1 sc1] at d0 d1
  rw[rows_len1 ic1] at d2 d3
  obtain⟨a0,c0,e0,r0⟩:=RowsAt.of_owns (fit:=strFit) (d:=ByteArray.empty) sc1 d0 rfl (fun j hj=>hT.keys.2.2.2.1 j (by rw[<-hT.keys.1];exact hj))
  obtain⟨a1,c1,e1,r1⟩:=RowsAt.of_owns (fit:=strFit) (d:=ByteArray.empty) sc1 d1 rfl (fun j hj=>hT.vals.2.2.2.1 j (by rw[<-hT.vals.1];exact hj))
  obtain⟨a3,c3,e3,r3⟩:=RowsAt.of_owns (fit:=I64) (d:=0) ic1 d2 rfl (fun j hj=>hT.over.2.2.2.1 j (by rw[<-hT.over.1];exact hj))
  obtain⟨a4,c4,e4,r4⟩:=RowsAt.of_owns (fit:=I64) (d:=0) ic1 d3 rfl (fun j hj=>hT.kids.2.2.2.1 j (by rw[<-hT.kids.1];exact hj))
  refine⟨a0,_,c0,a1,_,c1,a3,_,c3,a4,_,c4,?_,?_,?_,?_,?_,?_,hT.page,r0,r1,r3,r4⟩
  ·rw[Nat.zero_add];exact hcell 0 (by omega)
  ·rw[Nat.zero_add];exact hcell 1 (by omega)
  ·rw[Nat.zero_add,<-e0];exact hcell 2 (by omega)
  ·rw[Nat.zero_add,<-e1];exact hcell 3 (by omega)
  ·rw[Nat.zero_add,<-e3];exact hcell 4 (by omega)
  ·rw[Nat.zero_add,<-e4];exact hcell 5 (by omega)
theorem smallT_ofPI {ts:List TN} {n:Nat} (hl:ts.length=n) (hw:wTNs ts<=1048576):n<=1048576∧SmallT ts:=by
 have h1:=wTNs_len ts
 refine⟨by omega,fun j hj=>?_⟩
 have h2:=wTNs_get ts j hj
 have h3:=wStrs_len (ts.getD j dT).keys
 have h4:=wStrs_len (ts.getD j dT).vals
 unfold wTN at h2
 omega
theorem place_short:∀ (t:T),(∃ r,t.good r=true)->Neat t->∀ s o,∀ x ∈ ((placeT t s).1).flat o,shortNI x:=by
 intro t
 induction t using T.ind with
 | h t ih =>
  rintro ⟨r,hg⟩ hne s o x hx
  have hgp:=good_parts hg
  have hn:=(neat_eq t).1 hne
  by_cases hp:t.page=0
  ·rw[placeT_eq,if_neg (by simp[hp]),T.flat_eq] at hx
   cases hl:t.leaf
   ·have h4:t.kids.length<=4:=by have:=hgp.1.2;simpa[T.size,hl] using this
    have hsl:(stepsP (t.kids.map placeT) s).1.length=t.kids.length:=by rw[stepsP_len,List.length_map]
    rw[hl] at hx
    change x ∈ (if false=true then _ else (⟨false,(nxtP (stepsP (t.kids.map placeT) s).2).1,(stepsP (t.kids.map placeT) s).1.tail.map T.low,[],[],startsN (o+1) ((stepsP (t.kids.map placeT) s).1.map T.nodes)⟩:TN)::offs (o+1) ((stepsP (t.kids.map placeT) s).1.map T.flat)) at hx
    simp only[Bool.false_eq_true,if_false,List.mem_cons] at hx
    rcases hx with rfl | hx
    ·exact⟨by simp;omega,by simp,by simp,by rw[startsN_lenI,List.length_map];omega⟩
    ·obtain⟨g,hgm,s',hx⟩:=offs_memI _ _ hx
     obtain⟨z,hz,rfl⟩:=List.mem_map.1 hgm
     obtain⟨i,hi,rfl⟩:=List.mem_iff_getElem.1 hz
     have hi2:i<(t.kids.map placeT).length:=by rw[stepsP_len] at hi;exact hi
     obtain⟨s2,e⟩:=stepsP_get (t.kids.map placeT) s i hi2
     rw[List.getElem?_eq_getElem hi,List.getElem?_eq_getElem hi2] at e
     simp only[Option.map_some,Option.some.injEq,List.getElem_map] at e
     rw[e] at hx
     exact ih _ (List.getElem_mem _) ⟨false,hgp.2.2 _ (List.getElem_mem _)⟩ (hn.2.2 _ (List.getElem_mem _)) s2 s' x hx
   ·have h4:t.keys.length<=4:=by have:=hgp.1.2;simpa[T.size,hl] using this
    obtain⟨g1,g2,g3⟩:=hgp.2.1 hl
    rw[hl] at hx
    change x ∈ (if true=true then [(⟨true,_,t.keys,t.vals,(overP (t.vals.zip t.over) (stepsP (t.kids.map placeT) s).2).1,[]⟩:TN)] else _) at hx
    simp only[if_true,List.mem_singleton] at hx
    subst hx
    exact⟨h4,by show t.vals.length<=4;omega,by show (overP (t.vals.zip t.over) (stepsP (t.kids.map placeT) s).2).1.length<=4;rw[overP_len];simp;omega,by simp⟩
  ·rw[placeT_eq,if_pos hp] at hx
   exact flat_shortI t ⟨r,hg⟩ o x hx
def okP (p:Int × PgC):Prop:=p.2.kids.length<=4∧p.2.ents.length<=4
theorem val_okP {v:ByteArray} {s:PSt} (h:∀ p ∈ s.log,okP p):∀ p ∈ (valP v s).2.log,okP p:=fun p hp=>by
 change p ∈ (takeP ((v.size+95) / 96) s).2.log++ovPages v (takeP ((v.size+95) / 96) s).1 at hp
 rw[take_log,List.mem_append] at hp
 rcases hp with hp | hp
 ·exact h p hp
 ·unfold ovPages at hp
  obtain⟨k,_,rfl⟩:=List.mem_map.1 hp
  exact⟨Nat.zero_le _,Nat.zero_le _⟩
theorem over_okP:∀ (l:List (ByteArray × Int)) (s:PSt),(∀ p ∈ s.log,okP p)->∀ p ∈ (overP l s).2.log,okP p
 | [],s,h=>h
 | x::r,s,h=>by
  rw[overP]
  split
  ·exact over_okP r _ (val_okP h)
  ·exact over_okP r s h
theorem place_okP:∀ (t:T),(∃ r,t.good r=true)->Neat t->∀ s,(∀ p ∈ s.log,okP p)->∀ p ∈ (placeT t s).2.log,okP p:=by
 intro t
 induction t using T.ind with
 | h t ih =>
  rintro ⟨r,hg⟩ hne s hs
  have hgp:=good_parts hg
  have hn:=(neat_eq t).1 hne
  have hst:∀ (y:List T) (s:PSt),(∀ k ∈ y,k ∈ t.kids)->(∀ p ∈ s.log,okP p)->∀ p ∈ (stepsP (y.map placeT) s).2.log,okP p:=by
   intro y
   induction y with
   | nil=>intro s _ h;exact h
   | cons k y ihy =>
    intro s hy h
    rw[List.map_cons,stepsP]
    exact ihy _ (fun z hz=>hy z (by simp[hz])) (ih k (hy k (by simp)) ⟨false,hgp.2.2 k (hy k (by simp))⟩ (hn.2.2 k (hy k (by simp))) s h)
  have h0:=hst t.kids s (fun _ h=>h) hs
  rw[placeT_eq]
  split
  ·exact hs
  ·cases hl:t.leaf
   ·have h4:t.kids.length<=4:=by have:=hgp.1.2;simpa[T.size,hl] using this
    intro p hp
    change p ∈ (nxtP (stepsP (t.kids.map placeT) s).2).2.log++[((nxtP (stepsP (t.kids.map placeT) s).2).1,pageP ⟨false,_,t.keys,t.vals,t.over,(stepsP (t.kids.map placeT) s).1⟩)] at hp
    rw[nxt_log,List.mem_append,List.mem_singleton] at hp
    rcases hp with hp | rfl
    ·exact h0 p hp
    ·refine⟨?_,Nat.zero_le _⟩
     show (kidsC (stepsP (t.kids.map placeT) s).1).length<=4
     simp[kidsC,stepsP_len]
     exact h4
   ·have h4:t.keys.length<=4:=by have:=hgp.1.2;simpa[T.size,hl] using this
    intro p hp
    change p ∈ (nxtP (overP (t.vals.zip t.over) (stepsP (t.kids.map placeT) s).2).2).2.log++[((nxtP (overP (t.vals.zip t.over) (stepsP (t.kids.map placeT) s).2).2).1,pageP ⟨true,_,t.keys,t.vals,(overP (t.vals.zip t.over) (stepsP (t.kids.map placeT) s).2).1,(stepsP (t.kids.map placeT) s).1⟩)] at hp
    rw[nxt_log,List.mem_append,List.mem_singleton] at hp
    rcases hp with hp | rfl
    ·exact over_okP _ _ h0 p hp
    ·refine⟨Nat.zero_le _,?_⟩
     show ((t.keys.zip (t.vals.zip (overP (t.vals.zip t.over) (stepsP (t.kids.map placeT) s).2).1)).map entC).length<=4
     simp
     omega
theorem kG_okP (tx:Int):∀ (l:List (Int × PgC)) (k:Nat),(∀ p ∈ l,okP p)->kG k ((l.map Prod.snd).map (pgOf tx))<=k+31*l.length
 | [],k,h=>by simp[kG]
 | x::r,k,h=>by
  have h2:=kG_okP tx r (k+gLen (pgOf tx x.2)) (fun y hy=>h y (List.mem_cons_of_mem _ hy))
  have h3:gLen (pgOf tx x.2)<=31:=by
   have:=h x (List.mem_cons_self ..)
   unfold okP at this
   show 7+2*x.2.kids.length+4*x.2.ents.length<=31
   omega
  simp only[List.map_cons,kG,List.length_cons]
  omega
theorem plQ_bound (ts:List TN) (tx:Int) (tk:List Int):kG (kT 1 ((plQ ts tx tk).1.map TN.nd)) (((plQ ts tx tk).2.map Prod.snd).map (pgOf tx))+(plQ ts tx tk).2.length<=1000000000:=by
 have hnil:kG (kT 1 (([]:List TN).map TN.nd)) ((([]:List (Int × PgC)).map Prod.snd).map (pgOf tx))+([]:List (Int × PgC)).length<=1000000000:=by simp[kG,kT]
 by_cases h1:1<=tx∧tx<=2000000000
 ·cases ht:topT ts with
  | none=>rw[plQ_no ht];exact hnil
  | some u =>
   cases hb:(placeT u (plS (tk++u.nums))).2.bad
   ·rw[plQ_ok h1 ht hb]
    obtain⟨_,_,hg,hsh,_,hnn,_,_⟩:=topT_good ht
    have hne:=topT_neat ht
    have hw:=place_whole u (good_whole u true hg hsh) (plS (tk++u.nums))
    have e1:=kT_shortI ((placeT u (plS (tk++u.nums))).1.flat 0) 1 (place_short u ⟨true,hg⟩ hne _ 0)
    have e2:((placeT u (plS (tk++u.nums))).1.flat 0).length=u.nodes:=by rw[T.flat_len _ hw,place_nodes]
    have e3:=place_len u ⟨true,hg⟩ hne (plS (tk++u.nums))
    have e4:(plS (tk++u.nums)).log.length=0:=rfl
    have e5:=kG_okP tx (placeT u (plS (tk++u.nums))).2.log (kT 1 (((placeT u (plS (tk++u.nums))).1.flat 0).map TN.nd)) (place_okP u ⟨true,hg⟩ hne _ (fun p hp=>by simp[plS] at hp))
    show kG (kT 1 (((placeT u (plS (tk++u.nums))).1.flat 0).map TN.nd)) (((placeT u (plS (tk++u.nums))).2.log.map Prod.snd).map (pgOf tx))+(placeT u (plS (tk++u.nums))).2.log.length<=_
    omega
   ·rw[plQ_bad ht hb];exact hnil
 ·rw[plQ_tx h1];exact hnil
end Go.Proofs.YtkhglgalbifcnaaGreat
