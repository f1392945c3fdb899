import Derived.Test.YtkhglgalbifcnaaGreatGBA
import Derived.Test.YtkhglgalbifcnaaGreatGBE
import Derived.Test.YtkhglgalbifcnaaGreatTpm
namespace Go.Proofs.YtkhglgalbifcnaaGreat
open Go.RowKit
set_option linter.unusedVariables false
set_option linter.unusedSimpArgs false
set_option maxRecDepth 100000
def TowTo (t:T) (key:ByteArray) (j m:Nat):Prop:=m<j∧(m=0∨∃ k,t.kids[m]?=some k∧leB k.low key=true)∧∀ i k,m<i->i<j->t.kids[i]?=some k->¬ leB k.low key=true
def innT (ys:List T):T:=⟨false,0,[],[],[],ys⟩
def SL (w:World) (Q:Nat->Prop) (ys:List T) (v:Value):Prop:=∃ ya yc css,v=.slice ya ys.length yc∧QX w w.heap.size Q (innT ys) none 0 0 none 0 0 none 0 0 ya yc css
set_option maxHeartbeats 800000 in
theorem l3Low_neat (C:Nat):∀ (t:T),Neat t->∀ (w:World) (ka:Option Addr) (kn kc:Nat) (va:Option Addr) (vn vc:Nat) (oa:Option Addr) (on oc:Nat) (ya:Option Addr) (yc:Nat) (css:Nat->List Value),C<=w.heap.size->NodeX w 0 C (fun b=>b<C) t ka kn kc va vn vc oa on oc ya yc css ->
  Calls Tryz.prog 43 #[.agg #[.bool t.leaf,.int .i64 t.page,.slice ka kn kc,.slice va vn vc,.slice oa on oc,.slice ya t.kids.length yc]] w fun e w'=>e=.returned (.string t.low)∧Below w.heap.size w w':=by
 intro t
 induction t using T.ind with
 | h t ih =>
  intro hne w ka kn kc va vn vc oa on oc ya yc css hC hX
  have hb0:Below w.heap.size w (w.alloc (.cells #[.bool t.leaf,.int .i64 t.page,.slice ka kn kc,.slice va vn vc,.slice oa on oc,.slice ya t.kids.length yc] 49)):=(Below.refl _ _).alloc (Nat.le_refl _) _
  have hX0:=hX.belowC (hb0.mono hC)
  by_cases hl:t.leaf=true
  ·have HW:Hid (t.low=t.keys.headD ByteArray.empty):=T.low_leaf hl
   have hK:=hX0.keys
   have HK:Hid (t.keys.length=kn):=hK.1
   clear hX hX0 ih
   obtain⟨n,hn⟩:∃ n,n=t.kids.length:=⟨_,rfl⟩
   rw[<-hn] at hb0 hK ⊢
   clear hn
   rw[hl] at hb0 hK ⊢
   generalize t.page=p at hb0 hK ⊢
   clear hl
   by_cases hk:kn=0
   ·subst hk
    have HE:Hid (t.low=ByteArray.empty):=by
     show _=_
     rw[HW.out,List.eq_nil_of_length_eq_zero HK.out]
     rfl
    go_enter Tryz.func43,Tryz.ntmps43
    go_wp2
    go_ret
    exact⟨by rw[HE.out];rfl,hb0⟩
   ·obtain⟨b,off,rfl,_,_,e0⟩:=StrsAt.at hK (i:=0) (by omega)
    have HE:Hid (t.low=t.keys.getD 0 ByteArray.empty):=by
     show _=_
     rw[HW.out]
     cases t.keys<;>rfl
    rw[Nat.add_zero] at e0
    generalize t.keys.getD 0 ByteArray.empty=s at e0 HE
    clear hK HW
    go_enter Tryz.func43,Tryz.ntmps43
    go_wp2
    go_ret
    exact⟨by rw[HE.out];rfl,hb0⟩
  ·have hl2:t.leaf=false:=by simpa using hl
   have hn0:=((neat_eq t).1 hne).2.1 hl2
   have h2:0<t.kids.length:=by
    rcases e:t.kids with _ | ⟨a,r⟩
    ·exact absurd e hn0.2.2.2
    ·simp
   have h4:=hX.cap.1
   have h5:=hX.cap.2
   unfold maxLen at h5
   obtain⟨b,off,rfl,hbl,k,hki,hkm,ka',kn',kc',va',vn',vc',oa',on',oc',ya',yc',css',hXk,c0,c1,c2,c3,c4,c5⟩:=hX0.at (i:=0) (by omega)
   have HW:Hid (t.low=k.low):=by
    show _=_
    cases e:t.kids with
    | nil=>rw[e] at h2;simp at h2
    | cons a r=>rw[e] at hki;simp at hki;subst hki;exact T.low_inner hl2 e
   have IH:=ih k hkm (((neat_eq t).1 hne).2.2 k hkm)
   simp only[Nat.zero_mul,Nat.add_zero] at c0 c1 c2 c3 c4 c5
   clear hX hX0 hki hkm ih hn0 hne
   obtain⟨n,hn⟩:∃ n,n=t.kids.length:=⟨_,rfl⟩
   rw[<-hn] at hb0 hXk c0 c1 c2 c3 c4 c5 h2 h4 ⊢
   clear hn
   rw[hl2] at hb0 hXk c0 c1 c2 c3 c4 c5 ⊢
   generalize t.page=p at hb0 hXk c0 c1 c2 c3 c4 c5 ⊢
   clear hl hl2
   go_enter Tryz.func43,Tryz.ntmps43
   go_wp2_with fail
   refine (IH _ ka' kn' kc' va' vn' vc' oa' on' oc' ya' yc' css' (by simp;omega) hXk).mono ?_
   rintro e w1 ⟨rfl,hb1⟩
   go_wp2_with fail
   go_ret
   exact⟨by rw[HW.out];rfl,hb0.trans (hb1.mono (by simp))⟩
theorem steps_snoc:∀ (l:List T) (k:T) (s:PSt),stepsP ((l++[k]).map placeT) s=((stepsP (l.map placeT) s).1++[(placeT k (stepsP (l.map placeT) s).2).1],(placeT k (stepsP (l.map placeT) s).2).2)
 | [],k,s=>by simp[stepsP]
 | y::r,k,s=>by
  have h:=steps_snoc r k (placeT y s).2
  rw[List.cons_append,List.map_cons,stepsP,h,List.map_cons,stepsP]
  rfl
theorem QX.kidAt {w:World} {B:Nat} {Q:Nat->Prop} {t:T} {ka:Option Addr} {kn kc:Nat} {va:Option Addr} {vn vc:Nat} {oa:Option Addr} {on oc:Nat} {ya:Option Addr} {yc:Nat} {css:Nat->List Value} (h:QX w B Q t ka kn kc va vn vc oa on oc ya yc css) {i:Nat} (hi:i<t.kids.length) :
  ∃ b off,ya=some ⟨b,off,none⟩∧b<B∧∃ k,t.kids[i]?=some k∧k ∈ t.kids∧∃ ka kn kc va vn vc oa on oc ya yc css,QX w B Q k ka kn kc va vn vc oa on oc ya yc css ∧
   w.cell? ⟨b,off+i*6,none⟩=some (.bool k.leaf)∧w.cell? ⟨b,off+i*6+1,none⟩=some (.int .i64 k.page)∧w.cell? ⟨b,off+i*6+2,none⟩=some (.slice ka kn kc)∧w.cell? ⟨b,off+i*6+3,none⟩=some (.slice va vn vc)∧w.cell? ⟨b,off+i*6+4,none⟩=some (.slice oa on oc)∧w.cell? ⟨b,off+i*6+5,none⟩=some (.slice ya k.kids.length yc):=by
 obtain⟨b,off,e,hb,hc⟩:=h.nx.cell (by omega)
 have hk:t.kids[i]?=some t.kids[i]:=List.getElem?_eq_getElem hi
 obtain⟨ka',kn',kc',va',vn',vc',oa',on',oc',ya',yc',css',e2,hX⟩:=(h.kq i _ (List.getElem_mem _) hk).out
 have hc':=fun j hj=>hc i hi j hj
 rw[e2] at hc'
 exact⟨b,off,e,hb,_,hk,List.getElem_mem _,_,_,_,_,_,_,_,_,_,_,_,_,hX,hc' 0 (by omega),hc' 1 (by omega),hc' 2 (by omega),hc' 3 (by omega),hc' 4 (by omega),hc' 5 (by omega)⟩
theorem LfSt.newOv {X:Nat->Prop} {w wr:World} {N P U m A pc Bn nc:Nat} {pv0 nv0 ov:Value} {bx:Array Value} {ol:List Int} {pa na:Option Addr} {tx:Int} {s:PSt} (h:LfSt X w wr N P U pv0 nv0 bx (.slice none 0 0) 0 [] pa A pc na Bn nc tx s) (ho:wr.ownsRow (N+4) 2 1 ov m (rowsOf intCells ol)) (hne:∀ g,ov.ownBlock=some g->(Value.slice na Bn nc).ownBlock≠some g):LfSt X w wr N P U pv0 nv0 bx ov m ol pa A pc na Bn nc tx s :=
 ⟨h.fr,h.k0,h.k1,ho,h.pat,h.hz,h.z0,h.hN,hne,h.sz⟩
theorem zp_ty {X:Nat->Prop} {w:World} {P U a b base e sz n g:Nat} {pv nv v:Value} {tx:Int} {s:PSt} {xs:List Value} (h:PAt X w P U pv a nv b tx s) (ho:w.ownsRow base e sz v n xs) (h1:e≠2) (h2:e≠55) (h3:e≠4) (h4:e≠93) (hg:v.ownBlock=some g):¬ ZP P U pv nv g:=fun q=>by
 obtain⟨x1,p1⟩:=h.prow
 obtain⟨x2,p2⟩:=h.nrow
 rcases q with rfl | rfl | q | q
 ·exact own_ne_ty ho h.box h2 hg
 ·exact own_ne_ty ho h.us h3 hg
 ·exact rows_ne ho p1 h4 hg q
 ·exact rows_ne ho p2 h1 hg q
theorem PgSt.pushK {w w1:World} {N xm xc em ec xc':Nat} {kd tx:Int} {xa ea xa':Option Addr} {ks ks':List PK} {es:List PE} (h:PgSt w N kd tx xa xm xc ea em ec ks es) (ho:w1.ownsRow (N+4) 96 2 (.slice xa' (xm+1) xc') (xm+1) (rowsOf kidCells ks')) (hg:w.grownBy w1 (Value.slice xa xm xc).ownBlock):PgSt (w1.setCell ⟨N+2,5,none⟩ (.slice xa' (xm+1) xc')) N kd tx xa' (xm+1) xc' ea em ec ks' es:=by
 obtain⟨k,o1,o2⟩:=h
 have hf:Fr (fun g=>(Value.slice xa xm xc).ownBlock=some g) w w1:=Fr.of_grown hg (fun g e=>e)
 have k1:=(hf.block (N+2) (Array.getElem?_eq_some_iff.1 k).1 (fun q=>by have:=(o1.lt _ q).1;omega)).trans k
 have o3:=owns_fr o2 hf (fun g q q'=>rows_ne o2 o1 (by decide) q q')
 have fs:=fr_setT w1 (N+2) 5 (.slice xa' (xm+1) xc')
 exact⟨by rw[heap_setT k1];rfl,owns_fr ho fs (fun g q q'=>by have:=(ho.lt g q).1;omega),owns_fr o3 fs (fun g q q'=>by have:=(o3.lt g q).1;omega)⟩
theorem kids_snocC (ys:List T) (z:T):kidsC (ys++[z])=kidsC ys++[(if ys.length=0 then ByteArray.empty else z.low,z.page)]:=by
 unfold kidsC
 rw[List.zipIdx_append,List.map_append]
 simp
def XK (X:Nat->Prop) (v:Value) (g:Nat):Prop:=X g∨v.ownBlock=some g
structure IkSt (X:Nat->Prop) (w wr:World) (N P U:Nat) (pv0 nv0:Value) (bx:Array Value) (Q R:Nat->Prop) (ys:List T) (n:Nat) (sa:Option Addr) (sc:Nat) (css:Nat->List Value) (pa:Option Addr) (A pc:Nat) (na:Option Addr) (Bn nc:Nat) (tx:Int) (s:PSt) (xa:Option Addr) (xm xc:Nat) (ks:List PK):Prop where
 lf:LfSt (XK X (.slice xa xm xc)) w wr N P U pv0 nv0 bx (.slice none 0 0) 0 [] pa A pc na Bn nc tx s
 pg:PgSt wr N 2 tx xa xm xc none 0 0 ks []
 len:ys.length=n
 row:wr.ownsRow (N+3) 49 6 (.slice sa n sc) n (rowsC css n)
 nd:∀ (i:Nat) z,ys[i]?=some z->NodeQ wr wr.heap.size R z (css i)
 hR:∀ g,R g->((Q g∧g<N)∨N+4<=g)∧g<wr.heap.size∧¬ ZP P U (.slice pa A pc) (.slice na Bn nc) g∧(Value.slice sa n sc).ownBlock≠some g∧(Value.slice xa xm xc).ownBlock≠some g
theorem IkSt.six {X:Nat->Prop} {w wr:World} {N P U A pc Bn nc n sc xm xc:Nat} {pv0 nv0:Value} {bx:Array Value} {Q R:Nat->Prop} {ys:List T} {sa pa na xa:Option Addr} {css:Nat->List Value} {tx:Int} {ks:List PK} {s:PSt} (h:IkSt X w wr N P U pv0 nv0 bx Q R ys n sa sc css pa A pc na Bn nc tx s xa xm xc ks):∀ i,i<n->(css i).length=6:=fun i hi=>by
 have hl:=h.len
 obtain⟨_,_,_,_,_,_,_,_,_,_,_,_,e,_⟩:=(h.nd i _ (List.getElem?_eq_getElem (show i<ys.length by omega))).out
 rw[e]
 rfl
theorem IkSt.below {X:Nat->Prop} {w wr w1:World} {N P U A pc Bn nc n sc xm xc:Nat} {pv0 nv0:Value} {bx:Array Value} {Q R:Nat->Prop} {ys:List T} {sa pa na xa:Option Addr} {css:Nat->List Value} {tx:Int} {ks:List PK} {s:PSt} (h:IkSt X w wr N P U pv0 nv0 bx Q R ys n sa sc css pa A pc na Bn nc tx s xa xm xc ks) (hb:Below wr.heap.size wr w1):IkSt X w w1 N P U pv0 nv0 bx Q R ys n sa sc css pa A pc na Bn nc tx s xa xm xc ks :=
 ⟨h.lf.below hb,h.pg.below hb,h.len,owns_below h.row hb,fun i z hz=>NodeQ.keep (fun g _ hg=>hb.block g hg) (fun _ q=>q) hb.size _ _ (h.nd i z hz),fun g q=>by obtain⟨a1,a2,a3,a4,a5⟩:=h.hR g q;exact⟨a1,Nat.lt_of_lt_of_le a2 hb.size,a3,a4,a5⟩⟩
theorem IkSt.call {X:Nat->Prop} {w wr w1:World} {N P U A pc Bn nc n sc xm xc A2 pc2 B2 nc2:Nat} {pv0 nv0:Value} {bx:Array Value} {Q R Q9:Nat->Prop} {ys:List T} {sa pa na xa pa2 na2:Option Addr} {css:Nat->List Value} {tx:Int} {ks:List PK} {s s2:PSt} (h:IkSt X w wr N P U pv0 nv0 bx Q R ys n sa sc css pa A pc na Bn nc tx s xa xm xc ks) (hQ:∀ g,Q g->g<N) (hp:PAt (XK X (.slice xa xm xc)) w1 P U (.slice pa2 A2 pc2) A2 (.slice na2 B2 nc2) B2 tx s2) (hf:Fr (ZP P U (.slice pa A pc) (.slice na Bn nc)) wr w1) (hz:∀ g,ZP P U (.slice pa2 A2 pc2) (.slice na2 B2 nc2) g->ZP P U (.slice pa A pc) (.slice na Bn nc) g∨wr.heap.size<=g) (hq:∀ g,Q9 g->(Q g∨wr.heap.size<=g)∧¬ ZP P U (.slice pa2 A2 pc2) (.slice na2 B2 nc2) g∧g<w1.heap.size):IkSt X w w1 N P U pv0 nv0 bx Q (fun g=>R g∨Q9 g) ys n sa sc css pa2 A2 pc2 na2 B2 nc2 tx s2 xa xm xc ks:=by
 have hsz:=h.lf.sz
 have hkz:∀ g,(Value.slice sa n sc).ownBlock=some g->¬ ZP P U (.slice pa A pc) (.slice na Bn nc) g:=fun g e=>zp_ty h.lf.pat h.row (by decide) (by decide) (by decide) (by decide) e
 obtain⟨kp,o1,_⟩:=h.pg
 refine⟨h.lf.step hp hf hz,h.pg.zp h.lf hf,h.len,owns_fr h.row hf hkz,fun i z hz=>NodeQ.keep (fun g q hg=>hf.block g hg (h.hR g q).2.2.1) (fun _ q=>.inl q) hf.size _ _ (h.nd i z hz),fun g q=>?_⟩
 rcases q with q | q
 ·obtain⟨a1,a2,a3,a4,a5⟩:=h.hR g q
  exact⟨a1,Nat.lt_of_lt_of_le a2 hf.size,fun e=>(hz g e).elim a3 (fun e=>by omega),a4,a5⟩
 ·obtain⟨b1,b2,b3⟩:=hq g q
  refine⟨b1.elim (fun e=>.inl ⟨e,hQ g e⟩) (fun e=>.inr (by omega)),b3,b2,fun e=>?_,fun e=>?_⟩
  ·have:=h.row.lt g e
   rcases b1 with b1 | b1
   ·have:=hQ g b1;omega
   ·omega
  ·have:=o1.lt g e
   rcases b1 with b1 | b1
   ·have:=hQ g b1;omega
   ·omega
theorem IkSt.add {X:Nat->Prop} {w wr w1:World} {N P U A pc Bn nc n sc xm xc sc2:Nat} {pv0 nv0:Value} {bx:Array Value} {Q R:Nat->Prop} {ys:List T} {sa pa na xa sa2:Option Addr} {css:Nat->List Value} {tx:Int} {ks:List PK} {s:PSt} {z:T} {cs:List Value} (h:IkSt X w wr N P U pv0 nv0 bx Q R ys n sa sc css pa A pc na Bn nc tx s xa xm xc ks) (hz:NodeQ wr wr.heap.size R z cs) (ho:w1.ownsRow (N+3) 49 6 (.slice sa2 (n+1) sc2) (n+1) (rowsC css n++cs)) (hg:wr.grownBy w1 (Value.slice sa n sc).ownBlock) (hl:(Value.slice sa2 (n+1) sc2).ownBlock=(Value.slice sa n sc).ownBlock∨∀ g,(Value.slice sa2 (n+1) sc2).ownBlock=some g->wr.heap.size<=g):IkSt X w w1 N P U pv0 nv0 bx Q R (ys++[z]) (n+1) sa2 sc2 (fun i=>if i<n then css i else cs) pa A pc na Bn nc tx s xa xm xc ks:=by
 have hf:Fr (fun g=>(Value.slice sa n sc).ownBlock=some g) wr w1:=Fr.of_grown hg (fun g e=>e)
 obtain⟨kp,o1,o2⟩:=h.pg
 have hb:=fun g e=>(h.row.lt g e).1
 have hkeep:∀ z cs,NodeQ wr wr.heap.size R z cs->NodeQ w1 w1.heap.size R z cs:=fun z cs hz=>NodeQ.keep (fun g q hg=>hf.block g hg (h.hR g q).2.2.2.1) (fun _ q=>q) hf.size _ _ hz
 refine⟨h.lf.keep hf (fun g hg e=>?_) (fun g e=>by have:=hb g e;omega) (fun g e=>.inr (nk_row h.row e (by decide) (by decide))),PgSt.keep ⟨kp,o1,o2⟩ hf (fun e=>by have:=hb _ e;omega) (fun g e e'=>rows_ne o1 h.row (by decide) e e') (fun g e=>by simp[Value.ownBlock] at e),by rw[List.length_append,h.len];rfl,?_,?_,fun g q=>?_⟩
 ·rcases hg with q | q | q | q
  ·have:=hb g e;omega
  ·have:=hb g e;omega
  ·simp[Value.ownBlock] at q
  ·exact zp_ty h.lf.pat h.row (by decide) (by decide) (by decide) (by decide) e q
 ·have e:rowsC (fun i=>if i<n then css i else cs) (n+1)=rowsC css n++cs:=by
   rw[rowsC_succ,rowsC_congr (css:=css) (fun i hi=>by simp[hi])]
   simp
  rw[e]
  exact ho
 ·intro i x hx
  by_cases hi:i<n
  ·simp only[if_pos hi]
   rw[List.getElem?_append_left (by have:=h.len;omega)] at hx
   exact hkeep _ _ (h.nd i x hx)
  ·simp only[if_neg hi]
   have hi2:i=n:=by
    have:=(List.getElem?_eq_some_iff.1 hx).1
    rw[List.length_append,h.len] at this
    simp at this
    omega
   rw[List.getElem?_append_right (by have:=h.len;omega),h.len,hi2,Nat.sub_self] at hx
   simp at hx
   subst hx
   exact hkeep _ _ hz
 ·obtain⟨a1,a2,a3,a4,a5⟩:=h.hR g q
  refine⟨a1,Nat.lt_of_lt_of_le a2 hf.size,a3,fun e=>?_,a5⟩
  rcases hl with hl | hl
  ·rw[hl] at e;exact a4 e
  ·have:=hl g e;omega
theorem IkSt.addK {X:Nat->Prop} {w wr w1:World} {N P U A pc Bn nc n sc xm xc xc2:Nat} {pv0 nv0:Value} {bx:Array Value} {Q R:Nat->Prop} {ys:List T} {sa pa na xa xa2:Option Addr} {css:Nat->List Value} {tx:Int} {ks ks2:List PK} {s:PSt} {zs:List Value} (h:IkSt X w wr N P U pv0 nv0 bx Q R ys n sa sc css pa A pc na Bn nc tx s xa xm xc ks) (h0:wr.ownsRow (N+4) 96 2 (.slice xa xm xc) xm zs) (ho:w1.ownsRow (N+4) 96 2 (.slice xa2 (xm+1) xc2) (xm+1) (rowsOf kidCells ks2)) (hg:wr.grownBy w1 (Value.slice xa xm xc).ownBlock) (hl:(Value.slice xa2 (xm+1) xc2).ownBlock=(Value.slice xa xm xc).ownBlock∨∀ g,(Value.slice xa2 (xm+1) xc2).ownBlock=some g->wr.heap.size<=g):IkSt X w (w1.setCell ⟨N+2,5,none⟩ (.slice xa2 (xm+1) xc2)) N P U pv0 nv0 bx Q R ys n sa sc css pa A pc na Bn nc tx s xa2 (xm+1) xc2 ks2:=by
 have hf:Fr (fun g=>(Value.slice xa xm xc).ownBlock=some g) wr w1:=Fr.of_grown hg (fun g e=>e)
 have fs:=fr_setT w1 (N+2) 5 (.slice xa2 (xm+1) xc2)
 have hft:Fr (fun g=>(Value.slice xa xm xc).ownBlock=some g∨g=N+2) wr (w1.setCell ⟨N+2,5,none⟩ (.slice xa2 (xm+1) xc2)):=(hf.weak (fun g e=>.inl e)).trans (fs.weak (fun g e=>.inr e))
 have hk2:w1.heap[N+2]?=_:=(hf.block (N+2) (Array.getElem?_eq_some_iff.1 h.pg.1).1 (fun q=>by have:=(h0.lt _ q).1;omega)).trans h.pg.1
 have hlf:LfSt (fun g=>XK X (.slice xa xm xc) g∨(Value.slice xa2 (xm+1) xc2).ownBlock=some g) w wr N P U pv0 nv0 bx (.slice none 0 0) 0 [] pa A pc na Bn nc tx s:=h.lf.less (fun g q hlt=>by
  rcases q with q | q
  ·exact q
  ·rcases hl with hl | hl
   ·rw[hl] at q;exact .inr q
   ·have:=hl g q;omega)
 have hl2:=hlf.push (i:=5) (u:=.slice xa2 (xm+1) xc2) h0 (by decide) (by decide) (by decide) (by decide) (by decide) hg (fun g q=>.inl (.inl (.inr q))) (.inr (nk_blk hk2 (by decide) (by decide)))
 refine⟨hl2.less (fun g q _=>q.elim (fun q=>.inl (.inl q)) .inr),h.pg.pushK ho hg,h.len,owns_fr h.row hft (fun g e e'=>?_),fun i z hz=>NodeQ.keep (fun g q hg=>hft.block g hg (fun e=>?_)) (fun _ q=>q) hft.size _ _ (h.nd i z hz),fun g q=>?_⟩
 ·rcases e' with e' | e'
  ·exact rows_ne h.row h0 (by decide) e e'
  ·have:=(h.row.lt g e).1;omega
 ·obtain⟨a1,a2,a3,a4,a5⟩:=h.hR g q
  rcases e with e | e
  ·exact a5 e
  ·rcases a1 with a1 | a1<;>omega
 ·obtain⟨a1,a2,a3,a4,a5⟩:=h.hR g q
  refine⟨a1,Nat.lt_of_lt_of_le a2 hft.size,a3,a4,fun e=>?_⟩
  rcases hl with hl | hl
  ·rw[hl] at e;exact a5 e
  ·have:=hl g e;omega
end Go.Proofs.YtkhglgalbifcnaaGreat
