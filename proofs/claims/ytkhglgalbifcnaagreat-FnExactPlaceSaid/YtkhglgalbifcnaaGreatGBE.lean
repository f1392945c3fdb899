import Derived.Test.YtkhglgalbifcnaaGreatGBA
import Derived.Test.YtkhglgalbifcnaaGreatTpk
namespace Go.Proofs.YtkhglgalbifcnaaGreat
open Go.RowKit
set_option linter.unusedVariables false
set_option linter.unusedSimpArgs false
set_option maxRecDepth 100000
theorem over_snoc:∀ (l:List (ByteArray × Int)) (x:ByteArray × Int) (s:PSt),overP (l++[x]) s=((overP l s).1++[if 8<x.1.size∧x.2=0 then (valP x.1 (overP l s).2).1 else x.2],if 8<x.1.size∧x.2=0 then (valP x.1 (overP l s).2).2 else (overP l s).2)
 | [],x,s=>by
  rw[List.nil_append,overP]
  split<;>simp[*,overP]
 | y::r,x,s=>by
  have h1:=over_snoc r x (valP y.1 s).2
  have h2:=over_snoc r x s
  rw[List.cons_append,overP,overP]
  by_cases hy:8<y.1.size∧y.2=0
  ·simp only[if_pos hy]
   rw[h1]
   rfl
  ·simp only[if_neg hy]
   rw[h2]
   rfl
theorem rows_ne {w:World} {b1 b2 e1 e2 s1 s2 n1 n2:Nat} {u v:Value} {xs ys:List Value} (h:w.ownsRow b1 e1 s1 u n1 xs) (k:w.ownsRow b2 e2 s2 v n2 ys) (hne:e1≠e2) {g:Nat} (hu:u.ownBlock=some g):v.ownBlock≠some g:=by
 obtain⟨cur,hk⟩:=own_ty h hu
 exact own_ne_ty k hk (fun e=>hne e.symm)
structure LfSt (X:Nat->Prop) (w wr:World) (N P U:Nat) (pv0 nv0:Value) (bx:Array Value) (ov:Value) (m:Nat) (ol:List Int) (pa:Option Addr) (A pc:Nat) (na:Option Addr) (Bn nc:Nat) (tx:Int) (s:PSt):Prop where
 fr:Fr (ZP P U pv0 nv0) w wr
 k0:wr.heap[N]?=some (.cells bx 49)
 k1:wr.heap[N+1]?=some (.cells #[.bool false,.int .i64 0,.slice none 0 0,.slice none 0 0,.slice none 0 0,.slice none 0 0] 49)
 over:wr.ownsRow (N+4) 2 1 ov m (rowsOf intCells ol)
 pat:PAt X wr P U (.slice pa A pc) A (.slice na Bn nc) Bn tx s
 hz:∀ g,ZP P U (.slice pa A pc) (.slice na Bn nc) g->ZP P U pv0 nv0 g∨N+4<=g
 z0:∀ g,ZP P U pv0 nv0 g->g<N
 hN:w.heap.size=N
 ne:∀ g,ov.ownBlock=some g->(Value.slice na Bn nc).ownBlock≠some g
 sz:N+4<=wr.heap.size
def LB (N P U:Nat) (pv nv ov:Value) (g:Nat):Prop:=g=N∨g=N+1∨ov.ownBlock=some g∨ZP P U pv nv g
theorem LfSt.ovz {X:Nat->Prop} {w wr:World} {N P U m A pc Bn nc:Nat} {pv0 nv0 ov:Value} {bx:Array Value} {ol:List Int} {pa na:Option Addr} {tx:Int} {s:PSt} (h:LfSt X w wr N P U pv0 nv0 bx ov m ol pa A pc na Bn nc tx s) {g:Nat} (hg:ov.ownBlock=some g):¬ ZP P U (.slice pa A pc) (.slice na Bn nc) g:=fun e=>by
 obtain⟨xs,hp⟩:=h.pat.prow
 rcases e with e | e | e | e
 ·exact own_ne_ty h.over h.pat.box (by decide) (by rw[hg,e])
 ·exact own_ne_ty h.over h.pat.us (by decide) (by rw[hg,e])
 ·exact rows_ne hp h.over (by decide) e hg
 ·exact h.ne g hg e
theorem LfSt.zn {X:Nat->Prop} {w wr:World} {N P U m A pc Bn nc:Nat} {pv0 nv0 ov:Value} {bx:Array Value} {ol:List Int} {pa na:Option Addr} {tx:Int} {s:PSt} (h:LfSt X w wr N P U pv0 nv0 bx ov m ol pa A pc na Bn nc tx s) {g:Nat} (hg:ZP P U (.slice pa A pc) (.slice na Bn nc) g):g<N∨N+4<=g:=(h.hz g hg).elim (fun e=>.inl (h.z0 g e)) .inr
theorem LfSt.lb {X:Nat->Prop} {w wr:World} {N P U m A pc Bn nc:Nat} {pv0 nv0 ov:Value} {bx:Array Value} {ol:List Int} {pa na:Option Addr} {tx:Int} {s:PSt} (h:LfSt X w wr N P U pv0 nv0 bx ov m ol pa A pc na Bn nc tx s) {g:Nat} (hg:LB N P U (.slice pa A pc) (.slice na Bn nc) ov g):g<wr.heap.size∧(g<N+2∨N+4<=g):=by
 rcases hg with rfl | rfl | e | e
 ·exact⟨(Array.getElem?_eq_some_iff.1 h.k0).1,.inl (by omega)⟩
 ·exact⟨(Array.getElem?_eq_some_iff.1 h.k1).1,.inl (by omega)⟩
 ·exact⟨(h.over.lt g e).2,.inr (h.over.lt g e).1⟩
 ·exact⟨h.pat.lt e,(h.zn e).elim (fun e=>.inl (by omega)) .inr⟩
theorem LfSt.keep {X S:Nat->Prop} {w wr w1:World} {N P U m A pc Bn nc:Nat} {pv0 nv0 ov:Value} {bx:Array Value} {ol:List Int} {pa na:Option Addr} {tx:Int} {s:PSt} (h:LfSt X w wr N P U pv0 nv0 bx ov m ol pa A pc na Bn nc tx s) (hf:Fr S wr w1) (hS:∀ g,LB N P U (.slice pa A pc) (.slice na Bn nc) ov g->¬ S g) (h2:∀ g,S g->N<=g) (hK:∀ g,S g->X g∨NK wr g):LfSt X w w1 N P U pv0 nv0 bx ov m ol pa A pc na Bn nc tx s :=
 ⟨h.fr.up3 hf (fun g e=>.inr (by rw[h.hN];exact h2 g e)),(hf.block N (h.lb (.inl rfl)).1 (hS N (.inl rfl))).trans h.k0,(hf.block (N+1) (h.lb (.inr (.inl rfl))).1 (hS _ (.inr (.inl rfl)))).trans h.k1,owns_fr h.over hf (fun g e=>hS g (.inr (.inr (.inl e)))),h.pat.fr hf (fun g e=>hS g (.inr (.inr (.inr e)))) hK,h.hz,h.z0,h.hN,h.ne,Nat.le_trans h.sz hf.size⟩
theorem LfSt.below {X:Nat->Prop} {w wr w1:World} {N P U m A pc Bn nc:Nat} {pv0 nv0 ov:Value} {bx:Array Value} {ol:List Int} {pa na:Option Addr} {tx:Int} {s:PSt} (h:LfSt X w wr N P U pv0 nv0 bx ov m ol pa A pc na Bn nc tx s) (hb:Below wr.heap.size wr w1):LfSt X w w1 N P U pv0 nv0 bx ov m ol pa A pc na Bn nc tx s:=h.keep (S:=fun _=>False) (Fr.of_below hb) (fun _ _ e=>e) (fun _ e=>e.elim) (fun _ e=>e.elim)
theorem LfSt.less {X Y:Nat->Prop} {w wr:World} {N P U m A pc Bn nc:Nat} {pv0 nv0 ov:Value} {bx:Array Value} {ol:List Int} {pa na:Option Addr} {tx:Int} {s:PSt} (h:LfSt X w wr N P U pv0 nv0 bx ov m ol pa A pc na Bn nc tx s) (hY:∀ g,Y g->g<wr.heap.size->X g):LfSt Y w wr N P U pv0 nv0 bx ov m ol pa A pc na Bn nc tx s:=⟨h.fr,h.k0,h.k1,h.over,h.pat.less hY,h.hz,h.z0,h.hN,h.ne,h.sz⟩
theorem LfSt.log {X:Nat->Prop} {w wr:World} {N P U m A pc Bn nc:Nat} {pv0 nv0 ov:Value} {bx:Array Value} {ol:List Int} {pa na:Option Addr} {tx:Int} {s:PSt} (h:LfSt X w wr N P U pv0 nv0 bx ov m ol pa A pc na Bn nc tx s) (l:List (Int × PgC)):LfSt X w wr N P U pv0 nv0 bx ov m ol pa A pc na Bn nc tx { s with log:=s.log++l }:=⟨h.fr,h.k0,h.k1,h.over,h.pat.log l,h.hz,h.z0,h.hN,h.ne,h.sz⟩
theorem LfSt.step {X:Nat->Prop} {w wr w1:World} {N P U m A pc Bn nc A2 pc2 B2 nc2:Nat} {pv0 nv0 ov:Value} {bx:Array Value} {ol:List Int} {pa na pa2 na2:Option Addr} {tx:Int} {s s2:PSt} (h:LfSt X w wr N P U pv0 nv0 bx ov m ol pa A pc na Bn nc tx s) (hp:PAt X w1 P U (.slice pa2 A2 pc2) A2 (.slice na2 B2 nc2) B2 tx s2) (hf:Fr (ZP P U (.slice pa A pc) (.slice na Bn nc)) wr w1) (hz:∀ g,ZP P U (.slice pa2 A2 pc2) (.slice na2 B2 nc2) g->ZP P U (.slice pa A pc) (.slice na Bn nc) g∨wr.heap.size<=g):LfSt X w w1 N P U pv0 nv0 bx ov m ol pa2 A2 pc2 na2 B2 nc2 tx s2:=by
 have l0:=(h.lb (.inl rfl)).1
 have l1:=(h.lb (.inr (.inl rfl))).1
 have hs4:∀ g,ov.ownBlock=some g->g<wr.heap.size:=fun g e=>(h.over.lt g e).2
 refine⟨h.fr.up3 hf (fun g e=>(h.hz g e).elim .inl (fun e=>.inr (by rw[h.hN];omega))),(hf.block N l0 (fun e=>by have:=h.zn e;omega)).trans h.k0,(hf.block (N+1) l1 (fun e=>by have:=h.zn e;omega)).trans h.k1,owns_fr h.over hf (fun g e=>h.ovz e),hp,fun g e=>?_,h.z0,h.hN,fun g e e'=>?_,Nat.le_trans h.sz hf.size⟩
 ·rcases hz g e with e | e
  ·exact h.hz g e
  ·exact .inr (Nat.le_trans h.sz e)
 ·rcases hz g (.inr (.inr (.inr e'))) with e2 | e2
  ·exact h.ovz e e2
  ·have:=hs4 g e;omega
theorem ints_set (x:Int):∀ (l:List Int) (i:Nat),(rowsOf intCells l).set i (.int .i64 x)=rowsOf intCells (l.set i x)
 | [],i=>by simp[rowsOf]
 | y::r,0=>rfl
 | y::r,i+1=>by
  have h:=ints_set x r i
  show Value.int .i64 y::(rowsOf intCells r).set i (.int .i64 x)=_
  rw[h]
  rfl
theorem LfSt.put {X:Nat->Prop} {w wr:World} {N P U m A pc Bn nc G c i:Nat} {pv0 nv0:Value} {bx:Array Value} {ol:List Int} {pa na:Option Addr} {tx:Int} {s:PSt} (h:LfSt X w wr N P U pv0 nv0 bx (.slice (some ⟨G,0,none⟩) m c) m ol pa A pc na Bn nc tx s) (x:Int):LfSt X w (wr.setCell ⟨G,i,none⟩ (.int .i64 x)) N P U pv0 nv0 bx (.slice (some ⟨G,0,none⟩) m c) m (ol.set i x) pa A pc na Bn nc tx s:=by
 have hf:=fr_setT wr G i (.int .i64 x)
 have hG:=h.over.lt G rfl
 refine⟨h.fr.up3 hf (fun g e=>.inr (by rw[h.hN,e];omega)),(hf.block N (h.lb (.inl rfl)).1 (by omega)).trans h.k0,(hf.block (N+1) (h.lb (.inr (.inl rfl))).1 (by omega)).trans h.k1,?_,h.pat.fr hf (fun g e e'=>h.ovz (g:=G) rfl (e' ▸ e)) (fun g e=>.inr (e ▸ nk_row h.over (g:=G) rfl (by decide) (by decide))),h.hz,h.z0,h.hN,h.ne,Nat.le_trans h.sz hf.size⟩
 have h1:=(h.over.stored i (.int .i64 x)).1
 have e:(rowsOf intCells ol).set i (.int .i64 x)=rowsOf intCells (ol.set i x):=ints_set x ol i
 rw[e] at h1
 exact h1
theorem LfSt.box {X:Nat->Prop} {w wr:World} {N P U m A pc Bn nc:Nat} {pv0 nv0 ov:Value} {bx:Array Value} {ol:List Int} {pa na:Option Addr} {tx:Int} {s:PSt} (h:LfSt X w wr N P U pv0 nv0 bx ov m ol pa A pc na Bn nc tx s) (i:Nat) (v:Value):LfSt X w (wr.setCell ⟨N,i,none⟩ v) N P U pv0 nv0 (bx.setIfInBounds i v) ov m ol pa A pc na Bn nc tx s:=by
 have hf:=fr_setT wr N i v
 refine⟨h.fr.up3 hf (fun g e=>.inr (by rw[h.hN,e];omega)),heap_setT h.k0 i v,(hf.block (N+1) (h.lb (.inr (.inl rfl))).1 (by omega)).trans h.k1,owns_fr h.over hf (fun g e e'=>by have:=(h.over.lt g e).1;omega),h.pat.fr hf (fun g e e'=>by have:=h.zn e;omega) (fun g e=>.inr (e ▸ nk_blk h.k0 (by decide) (by decide))),h.hz,h.z0,h.hN,h.ne,Nat.le_trans h.sz hf.size⟩
def PgSt (w:World) (N:Nat) (kd tx:Int) (xa:Option Addr) (xm xc:Nat) (ea:Option Addr) (em ec:Nat) (ks:List PK) (es:List PE):Prop:=w.heap[N+2]?=some (.cells #[.int .i64 kd,.int .i64 tx,.int .i64 0,.int .i64 0,.int .i64 0,.slice xa xm xc,.slice ea em ec,.int .i64 0,.string ⟨#[]⟩] 93)∧w.ownsRow (N+4) 96 2 (.slice xa xm xc) xm (rowsOf kidCells ks)∧w.ownsRow (N+4) 98 4 (.slice ea em ec) em (rowsOf entCells es)
theorem PgSt.keep {S:Nat->Prop} {w w1:World} {N xm xc em ec:Nat} {kd tx:Int} {xa ea:Option Addr} {ks:List PK} {es:List PE} (h:PgSt w N kd tx xa xm xc ea em ec ks es) (hf:Fr S w w1) (h1:¬ S (N+2)) (h2:∀ g,(Value.slice xa xm xc).ownBlock=some g->¬ S g) (h3:∀ g,(Value.slice ea em ec).ownBlock=some g->¬ S g):PgSt w1 N kd tx xa xm xc ea em ec ks es:=by
 obtain⟨k,o1,o2⟩:=h
 exact⟨(hf.block (N+2) (Array.getElem?_eq_some_iff.1 k).1 h1).trans k,owns_fr o1 hf h2,owns_fr o2 hf h3⟩
theorem PgSt.below {w w1:World} {N xm xc em ec:Nat} {kd tx:Int} {xa ea:Option Addr} {ks:List PK} {es:List PE} (h:PgSt w N kd tx xa xm xc ea em ec ks es) (hb:Below w.heap.size w w1):PgSt w1 N kd tx xa xm xc ea em ec ks es:=h.keep (S:=fun _=>False) (Fr.of_below hb) (fun e=>e) (fun _ _ e=>e) (fun _ _ e=>e)
theorem PgSt.is {X:Nat->Prop} {w:World} {N xm xc em ec:Nat} {tx:Int} {xa ea:Option Addr} {c:PgC} (h:PgSt w N c.kind tx xa xm xc ea em ec c.kids c.ents) (hn:c.next=0) (hd:c.data=ByteArray.empty) (hX:∀ g,X g->g<N):PgIs X w tx [.int .i64 c.kind,.int .i64 tx,.int .i64 0,.int .i64 0,.int .i64 0,.slice xa xm xc,.slice ea em ec,.int .i64 0,.string ⟨#[]⟩] c:=by
 obtain⟨k,o1,o2⟩:=h
 obtain rfl:c.kids.length=xm:=by have:=o1.1;rw[rowsOf_length kc2] at this;omega
 obtain rfl:c.ents.length=em:=by have:=o2.1;rw[rowsOf_length ec4] at this;omega
 refine⟨xa,xc,ea,ec,by rw[hn,hd];rfl,owns_base o1 (Nat.zero_le _),owns_base o2 (Nat.zero_le _),fun g e q=>?_,fun g e q=>?_⟩
 ·have:=hX g q;have:=(o1.lt g e).1;omega
 ·have:=hX g q;have:=(o2.lt g e).1;omega
theorem PgSt.zp {X:Nat->Prop} {w wr:World} {N P U m A pc Bn nc xm xc em ec:Nat} {kd tx:Int} {xa ea:Option Addr} {ks:List PK} {es:List PE} {pv0 nv0 ov:Value} {bx:Array Value} {ol:List Int} {pa na:Option Addr} {s:PSt} (h:PgSt wr N kd tx xa xm xc ea em ec ks es) (hl:LfSt X w wr N P U pv0 nv0 bx ov m ol pa A pc na Bn nc tx s) {w1:World} (hf:Fr (ZP P U (.slice pa A pc) (.slice na Bn nc)) wr w1):PgSt w1 N kd tx xa xm xc ea em ec ks es:=by
 obtain⟨k,o1,o2⟩:=h
 obtain⟨x1,p1⟩:=hl.pat.prow
 obtain⟨x2,p2⟩:=hl.pat.nrow
 have hb:=hl.pat.box
 have hu:=hl.pat.us
 refine PgSt.keep ⟨k,o1,o2⟩ hf (fun e=>by have:=hl.zn e;omega) (fun g e e'=>?_) (fun g e e'=>?_)
 ·rcases e' with rfl | rfl | e' | e'
  ·exact own_ne_ty o1 hb (by decide) e
  ·exact own_ne_ty o1 hu (by decide) e
  ·exact rows_ne p1 o1 (by decide) e' e
  ·exact rows_ne p2 o1 (by decide) e' e
 ·rcases e' with rfl | rfl | e' | e'
  ·exact own_ne_ty o2 hb (by decide) e
  ·exact own_ne_ty o2 hu (by decide) e
  ·exact rows_ne p1 o2 (by decide) e' e
  ·exact rows_ne p2 o2 (by decide) e' e
theorem PgSt.st {w:World} {N xm xc em ec G i e:Nat} {kd tx:Int} {xa ea:Option Addr} {ks:List PK} {es:List PE} {cs:Array Value} (h:PgSt w N kd tx xa xm xc ea em ec ks es) (hk:w.heap[G]?=some (.cells cs e)) (h1:e≠96) (h2:e≠98) (h3:G≠N+2) (v:Value):PgSt (w.setCell ⟨G,i,none⟩ v) N kd tx xa xm xc ea em ec ks es:=by
 obtain⟨k,o1,o2⟩:=h
 exact PgSt.keep ⟨k,o1,o2⟩ (fr_setT w G i v) (fun e=>h3 e.symm) (fun g q q'=>own_ne_ty o1 hk (fun e=>h1 e.symm) (by rw[q,q'])) (fun g q q'=>own_ne_ty o2 hk (fun e=>h2 e.symm) (by rw[q,q']))
theorem PgSt.kind {w:World} {N xm xc em ec:Nat} {kd tx:Int} {xa ea:Option Addr} {ks:List PK} {es:List PE} (h:PgSt w N kd tx xa xm xc ea em ec ks es) (x:Int):PgSt (w.setCell ⟨N+2,0,none⟩ (.int .i64 x)) N x tx xa xm xc ea em ec ks es:=by
 obtain⟨k,o1,o2⟩:=h
 have fs:=fr_setT w (N+2) 0 (.int .i64 x)
 exact⟨by rw[heap_setT k];rfl,owns_fr o1 fs (fun g q q'=>by have:=(o1.lt g q).1;omega),owns_fr o2 fs (fun g q q'=>by have:=(o2.lt g q).1;omega)⟩
theorem put6T_eq (V:World) (b:Nat) (a0 a1 a2 a3 a4 a5:Value):((((((V.setCell ⟨b,0,none⟩ a0).setCell ⟨b,1,none⟩ a1).setCell ⟨b,2,none⟩ a2).setCell ⟨b,3,none⟩ a3).setCell ⟨b,4,none⟩ a4).setCell ⟨b,5,none⟩ a5)=put6T V b a0 a1 a2 a3 a4 a5:=rfl
def Slim (t:T):Prop:=(t.leaf=true->t.kids=[]∧t.vals.length=t.keys.length∧t.over.length=t.keys.length)∧(t.leaf=false->t.keys=[]∧t.vals=[]∧t.over=[])
def PartS (w:World) (Q:Nat->Prop) (t:T) (k:Nat) (e:Ending) (w':World):Prop:=∃ v1 v2,e=.returned (.tuple #[v1,v2])∧SN w' (fun g=>Q g∨w.heap.size<=g) (t.fore k) v1∧SN w' (fun g=>Q g∨w.heap.size<=g) (t.rest k) v2∧Below w.heap.size w w'
def PosK (ks:List ByteArray) (key:ByteArray) (i j:Nat):Prop:=i<=ks.length∧(∀ k,k<i->lessB (ks.getD k ByteArray.empty) key=true)∧(i<ks.length->¬ lessB (ks.getD i ByteArray.empty) key=true)∧((i<ks.length∧ks.getD i ByteArray.empty=key∧j=i+1)∨(¬ (i<ks.length∧ks.getD i ByteArray.empty=key)∧j=i))
def oneT (key val:ByteArray):T:=⟨true,0,[key],[val],[0],[]⟩
theorem alloc2N (w:World) (a b:Obj):((w.alloc a).alloc b).heap[w.heap.size]?=some a∧((w.alloc a).alloc b).heap[w.heap.size+1]?=some b∧((w.alloc a).alloc b).heap.size=w.heap.size+2∧Below w.heap.size w ((w.alloc a).alloc b):=by
 have b1:=(Below.refl (w.alloc a).heap.size _).alloc (Nat.le_refl _) b
 have s1:(w.alloc a).heap.size=w.heap.size+1:=by simp
 have e1:=heap_alloc_new (w.alloc a) b
 rw[s1] at e1
 exact⟨(b1.block _ (by omega)).trans (heap_alloc_new w a),e1,by simp,((Below.refl _ _).alloc (Nat.le_refl _) _).alloc (by simp) _⟩
end Go.Proofs.YtkhglgalbifcnaaGreat
