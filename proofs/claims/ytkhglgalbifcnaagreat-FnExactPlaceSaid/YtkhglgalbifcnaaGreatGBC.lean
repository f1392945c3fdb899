import Derived.Test.YtkhglgalbifcnaaGreatGAA
import Derived.Test.YtkhglgalbifcnaaGreatGAD
import Derived.Test.YtkhglgalbifcnaaGreatTlp
import Derived.Test.YtkhglgalbifcnaaGreatGAV
import Derived.Test.YtkhglgalbifcnaaGreatGBB
import Derived.Deep.RegionHeld3
import Derived.Deep.QuietTactic
import Derived.Lib.AppendStr
import Derived.Laws.BitsAll
import Derived.Laws.IdiomStrings
namespace Go.Proofs.YtkhglgalbifcnaaGreat
open Go.RowKit
set_option linter.unusedVariables false
set_option linter.unusedSimpArgs false
set_option maxRecDepth 100000
theorem stand_new {v:ByteArray} {o p:Int} (h:standB 0 v o=true) (ho:¬ (8<v.size∧o=0)):standB p v o=true:=by
 unfold standB at h ⊢
 simp only[Bool.and_eq_true,Bool.not_eq_true',Bool.and_eq_false_iff,Bool.or_eq_true,decide_eq_true_eq,decide_eq_false_iff_not,beq_iff_eq,bne_iff_ne,ne_eq,bne_eq_false_iff_eq,beq_eq_false_iff_ne] at h ⊢
 refine⟨h.1,?_⟩
 by_cases h0:o=0
 ·exact .inl (.inr (fun e=>ho ⟨e,h0⟩))
 ·exact .inl (.inl h0)
theorem stand_val {v:ByteArray} {x p:Int} (h:standB 0 v 0=true) (h8:8<v.size) (hx:2<=x∧x<=999):standB p v x=true:=by
 unfold standB at h ⊢
 have hp:pgB x=true:=by unfold pgB;exact decide_eq_true hx
 simp only[Bool.and_eq_true,decide_eq_true_eq] at h
 have h4:decide (v.size<=400)=true:=by simpa using h.1.1.1
 have h9:decide (v.size<=8)=false:=by simp;omega
 have h0:(x == 0)=false:=by simp;omega
 rw[hp,h4,h9,h0]
 simp
theorem overP_ok (p:Int):∀ (l:List (ByteArray × Int)) (s:PSt),s.used.length=1000->(overP l s).2.bad=false->(∀ x ∈ l,standB 0 x.1 x.2=true)->∀ x ∈ (l.map (fun y=>y.1)).zip (overP l s).1,standB p x.1 x.2=true
 | [],s,_,_,_,x,hx=>by simp at hx
 | y::r,s,hs,hb,h,x,hx=>by
  rw[overP] at hb hx
  have hy:=h y (List.mem_cons_self ..)
  split at hb
  ·rename_i hc
   rw[if_pos hc] at hx
   obtain⟨r1,p1⟩:=val_pl hs hc.1
   have hl:(valP y.1 s).2.used.length=1000:=by rw[p1.len,hs]
   obtain⟨n2,p2,_⟩:=over_pl r (valP y.1 s).2 hl
   have hb:(overP r (valP y.1 s).2).2.bad=false:=hb
   simp only[List.map_cons,List.zip_cons_cons,List.mem_cons] at hx
   rcases hx with rfl | hx
   ·have h1:=(p1.one (p2.was hb)).2 _ (List.mem_cons_self ..)
    exact stand_val (by rw[hc.2] at hy;exact hy) hc.1 ⟨h1.1,h1.2.1⟩
   ·exact overP_ok p r _ hl hb (fun z hz=>h z (List.mem_cons_of_mem _ hz)) x hx
  ·rename_i hc
   rw[if_neg hc] at hx
   have hb:(overP r s).2.bad=false:=hb
   simp only[List.map_cons,List.zip_cons_cons,List.mem_cons] at hx
   rcases hx with rfl | hx
   ·exact stand_new hy hc
   ·exact overP_ok p r s hs hb (fun z hz=>h z (List.mem_cons_of_mem _ hz)) x hx
theorem stepsP_ok (P:T->Prop):∀ (y:List T) (s:PSt),s.used.length=1000->(∀ k ∈ y,∃ r,k.good r=true)->(stepsP (y.map placeT) s).2.bad=false->(∀ k ∈ y,∀ s,s.used.length=1000->(placeT k s).2.bad=false->P (placeT k s).1)->∀ z ∈ (stepsP (y.map placeT) s).1,P z
 | [],s,_,_,_,_,z,hz=>by simp[stepsP] at hz
 | k::r,s,hs,hg,hb,h,z,hz=>by
  rw[List.map_cons,stepsP] at hb hz
  have hb:(stepsP (r.map placeT) (placeT k s).2).2.bad=false:=hb
  obtain⟨n1,p1,_⟩:=place_pl k (hg k (List.mem_cons_self ..)) s hs
  have hl:(placeT k s).2.used.length=1000:=by rw[p1.len,hs]
  obtain⟨n2,p2,_⟩:=steps_pl r (placeT k s).2 hl (fun x hx s hs=>place_pl x (hg x (List.mem_cons_of_mem _ hx)) s hs)
  rcases List.mem_cons.1 hz with rfl | hz
  ·exact h k (List.mem_cons_self ..) s hs (p2.was hb)
  ·exact stepsP_ok P r _ hl (fun x hx=>hg x (List.mem_cons_of_mem _ hx)) hb (fun x hx=>h x (List.mem_cons_of_mem _ hx)) z hz
theorem place_page {t:T} {s:PSt} (hs:s.used.length=1000) (hg:∃ r,t.good r=true) (hb:(placeT t s).2.bad=false):(placeT t s).1.page≠0:=by
 obtain⟨r,hg⟩:=hg
 have hp:=good_parts hg
 by_cases h0:t.page≠0
 ·rw[placeT_eq,if_pos h0];exact h0
 ·rw[placeT_eq,if_neg h0] at hb ⊢
  obtain⟨n1,p1,c1⟩:=steps_pl t.kids s hs (fun k hk s hs=>place_pl k ⟨false,hp.2.2 k hk⟩ s hs)
  have ho:(if t.leaf then overP (t.vals.zip t.over) (stepsP (t.kids.map placeT) s).2 else (t.over,(stepsP (t.kids.map placeT) s).2)).2.used.length=1000:=by
   cases hl:t.leaf
   ·show (stepsP (t.kids.map placeT) s).2.used.length=1000
    rw[p1.len,hs]
   ·obtain⟨n2,p2,_⟩:=over_pl (t.vals.zip t.over) (stepsP (t.kids.map placeT) s).2 (by rw[p1.len,hs])
    show (overP (t.vals.zip t.over) (stepsP (t.kids.map placeT) s).2).2.used.length=1000
    rw[p2.len,p1.len,hs]
  generalize (if t.leaf then overP (t.vals.zip t.over) (stepsP (t.kids.map placeT) s).2 else (t.over,(stepsP (t.kids.map placeT) s).2))=os at ho hb ⊢
  have p3:=nxt_pl ho
  have h1:=(p3.one hb).2 _ (List.mem_cons_self ..)
  show (nxtP os.2).1≠0
  omega
theorem place_good:∀ (t:T) (r:Bool),t.good r=true->∀ s,s.used.length=1000->(placeT t s).2.bad=false->(placeT t s).1.good r=true:=by
 intro t
 induction t using T.ind with
 | h t ih =>
  intro r hg s hs hb
  have hp:=good_parts hg
  by_cases h0:t.page≠0
  ·rw[placeT_eq,if_pos h0];exact hg
  ·have hpg:=place_page hs ⟨r,hg⟩ hb
   have hsz:=place_size t s
   have hlf:=place_leaf t s
   have hks:=place_keys t s
   have hvs:=place_vals t s
   obtain⟨n1,p1,c1⟩:=steps_pl t.kids s hs (fun k hk s hs=>place_pl k ⟨false,hp.2.2 k hk⟩ s hs)
   have hkd:(placeT t s).1.kids=(stepsP (t.kids.map placeT) s).1:=by rw[placeT_eq,if_neg h0];rfl
   have hov:t.leaf=true->(placeT t s).1.over=(overP (t.vals.zip t.over) (stepsP (t.kids.map placeT) s).2).1:=fun hl=>by rw[placeT_eq,if_neg h0,hl];rfl
   have hpb:pgB (placeT t s).1.page=true∧(stepsP (t.kids.map placeT) s).2.bad=false∧(t.leaf=true->(overP (t.vals.zip t.over) (stepsP (t.kids.map placeT) s).2).2.bad=false):=by
    rw[placeT_eq,if_neg h0] at hb ⊢
    have hb:(nxtP (if t.leaf then overP (t.vals.zip t.over) (stepsP (t.kids.map placeT) s).2 else (t.over,(stepsP (t.kids.map placeT) s).2)).2).2.bad=false:=hb
    cases hl:t.leaf
    ·rw[hl] at hb
     have hb:(nxtP (stepsP (t.kids.map placeT) s).2).2.bad=false:=hb
     have p3:=nxt_pl (s:=(stepsP (t.kids.map placeT) s).2) (by rw[p1.len,hs])
     have h1:=(p3.one hb).2 _ (List.mem_cons_self ..)
     exact⟨decide_eq_true ⟨h1.1,h1.2.1⟩,p3.was hb,fun e=>by cases e⟩
    ·rw[hl] at hb
     have hb:(nxtP (overP (t.vals.zip t.over) (stepsP (t.kids.map placeT) s).2).2).2.bad=false:=hb
     obtain⟨n2,p2,_⟩:=over_pl (t.vals.zip t.over) (stepsP (t.kids.map placeT) s).2 (by rw[p1.len,hs])
     have p3:=nxt_pl (s:=(overP (t.vals.zip t.over) (stepsP (t.kids.map placeT) s).2).2) (by rw[p2.len,p1.len,hs])
     have h1:=(p3.one hb).2 _ (List.mem_cons_self ..)
     exact⟨decide_eq_true ⟨h1.1,h1.2.1⟩,p2.was (p3.was hb),fun _=>p3.was hb⟩
   have hk1:=stepsP_ok (fun z=>z.good false=true∧z.page≠0) t.kids s hs (fun k hk=>⟨false,hp.2.2 k hk⟩) hpb.2.1 (fun k hk s hs hb=>⟨ih k hk false (hp.2.2 k hk) s hs hb,place_page hs ⟨false,hp.2.2 k hk⟩ hb⟩)
   rw[T.good_eq,hsz,hlf,hks,hvs,hkd]
   simp only[Bool.and_eq_true]
   refine⟨⟨⟨⟨decide_eq_true (by have h9:=hp.1;simpa only[Bool.and_eq_true] using h9),by rw[hpb.1];simp⟩,?_⟩,?_⟩,?_⟩
   ·cases hl:t.leaf
    ·rfl
    ·obtain⟨g1,g2,g3⟩:=hp.2.1 hl
     have hpz:t.page=0:=by simpa using h0
     have hz:(t.vals.zip t.over).map (fun y=>y.1)=t.vals:=List.map_fst_zip (by omega)
     have h5:=overP_ok (placeT t s).1.page (t.vals.zip t.over) (stepsP (t.kids.map placeT) s).2 (by rw[p1.len,hs]) (hpb.2.2 hl) (fun x hx=>by have:=g3 x hx;rw[hpz] at this;exact this)
     rw[hz] at h5
     rw[hov hl]
     simp only[Bool.not_true,Bool.false_or,Bool.and_eq_true,decide_eq_true_eq,List.all_eq_true]
     exact⟨⟨g1,by rw[overP_len];simp[g1,g2]⟩,h5⟩
   ·rw[List.all_map,List.all_eq_true]
    intro z hz
    exact (hk1 z hz).1
   ·rw[List.all_eq_true]
    intro z hz
    have:=(hk1 z hz).2
    simp[this]
def usN (s:PSt):Nat:=(s.used.drop 2).count true
structure Room (s s':PSt) (n:Nat):Prop where
 len:s'.used.length=1000
 cnt:usN s'<=usN s+n
 ok:s.bad=false->usN s+n<=998->s'.bad=false
theorem stand_400 {p:Int} {v:ByteArray} {o:Int} (h:standB p v o=true):v.size<=400:=by
 unfold standB at h
 simp only[Bool.and_eq_true,decide_eq_true_eq] at h
 exact h.1.1.1
theorem own_ty {w:World} {base e size n:Nat} {v:Value} {xs:List Value} (h:w.ownsRow base e size v n xs) {g:Nat} (hg:v.ownBlock=some g):∃ cur,w.heap[g]?=some (.cells cur e):=by
 rcases h.2 with ⟨rfl,_⟩ | ⟨g0,cap,cur,rfl,_,hk,_⟩
 ·simp[Value.ownBlock] at hg
 ·simp[Value.ownBlock] at hg
  subst hg
  exact⟨cur,hk⟩
theorem own_ne_ty {w:World} {base e size n t g:Nat} {v:Value} {xs:List Value} {cs:Array Value} (h:w.ownsRow base e size v n xs) (hk:w.heap[g]?=some (.cells cs t)) (hne:e≠t):v.ownBlock≠some g:=fun e=>by
 obtain⟨cur,h2⟩:=own_ty h e
 rw[hk] at h2
 simp at h2
 exact hne h2.2.symm
def ZP (P U:Nat) (pv nv:Value) (g:Nat):Prop:=g=P∨g=U∨pv.ownBlock=some g∨nv.ownBlock=some g
def NK (w:World) (g:Nat):Prop:=∀ cs e,w.heap[g]?=some (.cells cs e)->e≠96∧e≠98
theorem nk_blk {w:World} {g e:Nat} {cs:Array Value} (h:w.heap[g]?=some (.cells cs e)) (h1:e≠96) (h2:e≠98):NK w g:=fun cs' e' h'=>by
 rw[h] at h'
 simp at h'
 rw[<-h'.2]
 exact⟨h1,h2⟩
theorem nk_row {w:World} {base e size n g:Nat} {v:Value} {xs:List Value} (h:w.ownsRow base e size v n xs) (hg:v.ownBlock=some g) (h1:e≠96) (h2:e≠98):NK w g:=by
 obtain⟨cur,hk⟩:=own_ty h hg
 exact nk_blk hk h1 h2
def PgIs (X:Nat->Prop) (w:World) (tx:Int) (cs:List Value) (c:PgC):Prop:=∃ (ka:Option Addr) (kc:Nat) (ea:Option Addr) (ec:Nat),cs=[.int .i64 c.kind,.int .i64 tx,.int .i64 0,.int .i64 0,.int .i64 0,.slice ka c.kids.length kc,.slice ea c.ents.length ec,.int .i64 c.next,.string c.data] ∧
 w.ownsRow 0 96 2 (.slice ka c.kids.length kc) c.kids.length (rowsOf kidCells c.kids)∧w.ownsRow 0 98 4 (.slice ea c.ents.length ec) c.ents.length (rowsOf entCells c.ents)∧(∀ g,(Value.slice ka c.kids.length kc).ownBlock=some g->¬ X g)∧∀ g,(Value.slice ea c.ents.length ec).ownBlock=some g->¬ X g
theorem PgIs.fr {X S:Nat->Prop} {w w':World} {tx:Int} {cs:List Value} {c:PgC} (h:PgIs X w tx cs c) (hf:Fr S w w') (hS:∀ g,S g->X g∨NK w g):PgIs X w' tx cs c:=by
 obtain⟨ka,kc,ea,ec,e,h1,h2,h3,h4⟩:=h
 refine⟨ka,kc,ea,ec,e,owns_fr h1 hf (fun g q q'=>?_),owns_fr h2 hf (fun g q q'=>?_),h3,h4⟩
 ·obtain⟨cur,hk⟩:=own_ty h1 q
  exact (hS g q').elim (h3 g q) (fun n=>(n _ _ hk).1 rfl)
 ·obtain⟨cur,hk⟩:=own_ty h2 q
  exact (hS g q').elim (h4 g q) (fun n=>(n _ _ hk).2 rfl)
theorem PgIs.below {X:Nat->Prop} {w w':World} {tx:Int} {cs:List Value} {c:PgC} (h:PgIs X w tx cs c) (hb:Below w.heap.size w w'):PgIs X w' tx cs c:=h.fr (S:=fun _=>False) (Fr.of_below hb) (fun _ e=>e.elim)
theorem PgIs.less {X Y:Nat->Prop} {w:World} {tx:Int} {cs:List Value} {c:PgC} (h:PgIs X w tx cs c) (hY:∀ g,Y g->g<w.heap.size->X g):PgIs Y w tx cs c:=by
 obtain⟨ka,kc,ea,ec,e,h1,h2,h3,h4⟩:=h
 exact⟨ka,kc,ea,ec,e,h1,h2,fun g q q'=>h3 g q (hY g q' (h1.lt g q).2),fun g q q'=>h4 g q (hY g q' (h2.lt g q).2)⟩
theorem PgIs.over {X:Nat->Prop} {w:World} {tx:Int} (nx:Int) (d:ByteArray):PgIs X w tx [.int .i64 4,.int .i64 tx,.int .i64 0,.int .i64 0,.int .i64 0,.slice none 0 0,.slice none 0 0,.int .i64 nx,.string d] (.over nx d):=⟨none,0,none,0,rfl,⟨rfl,.inl ⟨rfl,rfl⟩⟩,⟨rfl,.inl ⟨rfl,rfl⟩⟩,fun g e=>by simp[Value.ownBlock] at e,fun g e=>by simp[Value.ownBlock] at e⟩
structure PAt (X:Nat->Prop) (w:World) (P U:Nat) (pv:Value) (a:Nat) (nv:Value) (b:Nat) (tx:Int) (s:PSt):Prop where
 box:w.heap[P]?=some (.cells #[.slice (some ⟨U,0,none⟩) 1000 1000,.int .i64 tx,pv,nv,.bool s.bad] 55)
 us:w.heap[U]?=some (.cells (s.used.map Value.bool).toArray 4)
 len:s.used.length=1000
 pgs:∃ css:List (List Value),w.ownsRow 0 93 9 pv a css.flatten∧css.length=a∧∀ (i:Nat) cs,css[i]?=some cs->∃ n c,s.log[i]?=some (n,c)∧PgIs X w tx cs c
 nms:w.ownsRow 0 2 1 nv b (rowsOf intCells ((s.log.take b).map Prod.fst))
theorem PAt.prow {X:Nat->Prop} {w:World} {P U a b:Nat} {pv nv:Value} {tx:Int} {s:PSt} (h:PAt X w P U pv a nv b tx s):∃ xs,w.ownsRow 0 93 9 pv a xs:=by
 obtain⟨css,h1,_⟩:=h.pgs
 exact⟨_,h1⟩
theorem PAt.nrow {X:Nat->Prop} {w:World} {P U a b:Nat} {pv nv:Value} {tx:Int} {s:PSt} (h:PAt X w P U pv a nv b tx s):∃ xs,w.ownsRow 0 2 1 nv b xs:=⟨_,h.nms⟩
theorem PAt.ne {X:Nat->Prop} {w:World} {P U a b:Nat} {pv nv:Value} {tx:Int} {s:PSt} (h:PAt X w P U pv a nv b tx s):P≠U:=fun e=>by
 have h1:=h.box
 rw[e,h.us] at h1
 simp at h1
theorem PAt.lt {X:Nat->Prop} {w:World} {P U a b:Nat} {pv nv:Value} {tx:Int} {s:PSt} (h:PAt X w P U pv a nv b tx s) {g:Nat} (hg:ZP P U pv nv g):g<w.heap.size:=by
 obtain⟨xs,hp⟩:=h.prow
 obtain⟨ys,hn⟩:=h.nrow
 rcases hg with rfl | rfl | hg | hg
 ·exact (Array.getElem?_eq_some_iff.1 h.box).1
 ·exact (Array.getElem?_eq_some_iff.1 h.us).1
 ·exact (hp.lt g hg).2
 ·exact (hn.lt g hg).2
theorem pgs_fr {X S:Nat->Prop} {w w':World} {tx:Int} {l:List (Int × PgC)} {css:List (List Value)} (h:∀ (i:Nat) cs,css[i]?=some cs->∃ n c,l[i]?=some (n,c)∧PgIs X w tx cs c) (hf:Fr S w w') (hS:∀ g,S g->X g∨NK w g):∀ (i:Nat) cs,css[i]?=some cs->∃ n c,l[i]?=some (n,c)∧PgIs X w' tx cs c:=fun i cs hi=>by
 obtain⟨n,c,e,hc⟩:=h i cs hi
 exact⟨n,c,e,hc.fr hf hS⟩
theorem PAt.fr {X S:Nat->Prop} {w w':World} {P U a b:Nat} {pv nv:Value} {tx:Int} {s:PSt} (h:PAt X w P U pv a nv b tx s) (hf:Fr S w w') (hS:∀ g,ZP P U pv nv g->¬ S g) (hK:∀ g,S g->X g∨NK w g):PAt X w' P U pv a nv b tx s:=by
 obtain⟨css,hp,hl,hc⟩:=h.pgs
 exact⟨(hf.block P (h.lt (.inl rfl)) (hS P (.inl rfl))).trans h.box,(hf.block U (h.lt (.inr (.inl rfl))) (hS U (.inr (.inl rfl)))).trans h.us,h.len,
  ⟨css,owns_fr hp hf (fun g e=>hS g (.inr (.inr (.inl e)))),hl,pgs_fr hc hf hK⟩,owns_fr h.nms hf (fun g e=>hS g (.inr (.inr (.inr e))))⟩
theorem PAt.below {X:Nat->Prop} {w w':World} {P U a b:Nat} {pv nv:Value} {tx:Int} {s:PSt} (h:PAt X w P U pv a nv b tx s) (hb:Below w.heap.size w w'):PAt X w' P U pv a nv b tx s:=h.fr (S:=fun _=>False) (Fr.of_below hb) (fun _ _ e=>e) (fun _ e=>e.elim)
theorem PAt.less {X Y:Nat->Prop} {w:World} {P U a b:Nat} {pv nv:Value} {tx:Int} {s:PSt} (h:PAt X w P U pv a nv b tx s) (hY:∀ g,Y g->g<w.heap.size->X g):PAt Y w P U pv a nv b tx s:=by
 obtain⟨css,hp,hl,hc⟩:=h.pgs
 refine⟨h.box,h.us,h.len,⟨css,hp,hl,fun i cs hi=>?_⟩,h.nms⟩
 obtain⟨n,c,e,hq⟩:=hc i cs hi
 exact⟨n,c,e,hq.less hY⟩
theorem PAt.apart {X:Nat->Prop} {w:World} {P U a b:Nat} {pv nv:Value} {tx:Int} {s:PSt} (h:PAt X w P U pv a nv b tx s):pv.ownBlock≠some P∧pv.ownBlock≠some U∧nv.ownBlock≠some P∧nv.ownBlock≠some U∧∀ g,pv.ownBlock=some g->nv.ownBlock≠some g:=by
 obtain⟨xs,hp⟩:=h.prow
 obtain⟨ys,hn⟩:=h.nrow
 refine⟨own_ne_ty hp h.box (by decide),own_ne_ty hp h.us (by decide),own_ne_ty hn h.box (by decide),own_ne_ty hn h.us (by decide),fun g e=>?_⟩
 obtain⟨cur,hk⟩:=own_ty hp e
 exact own_ne_ty hn hk (by decide)
theorem PAt.nk {X:Nat->Prop} {w:World} {P U a b:Nat} {pv nv:Value} {tx:Int} {s:PSt} (h:PAt X w P U pv a nv b tx s) {g:Nat} (hg:ZP P U pv nv g):NK w g:=by
 obtain⟨xs,hp⟩:=h.prow
 rcases hg with rfl | rfl | hg | hg
 ·exact nk_blk h.box (by decide) (by decide)
 ·exact nk_blk h.us (by decide) (by decide)
 ·exact nk_row hp hg (by decide) (by decide)
 ·exact nk_row h.nms hg (by decide) (by decide)
theorem box5P {w:World} {N:Nat} {v0 v1 v2 v3 v4:Value} {t:TypeId} (h:w.heap[N]?=some (.cells #[v0,v1,v2,v3,v4] t)):w.cell? ⟨N,0,none⟩=some v0∧w.cell? ⟨N,1,none⟩=some v1∧w.cell? ⟨N,2,none⟩=some v2∧w.cell? ⟨N,3,none⟩=some v3∧w.cell? ⟨N,4,none⟩=some v4:=by
 simp[World.cell?,h]
theorem PAt.cell {X:Nat->Prop} {w:World} {P U a b:Nat} {pv nv:Value} {tx:Int} {s:PSt} (h:PAt X w P U pv a nv b tx s) {i:Nat} (hi:i<1000):w.cell? ⟨U,i,none⟩=some (.bool (s.used.getD i true)):=by
 have hl:=h.len
 have h1:i<s.used.length:=by omega
 simp[World.cell?,h.us,List.getD,List.getElem?_eq_getElem h1]
theorem PAt.mark {X:Nat->Prop} {w:World} {P U a b:Nat} {pv nv:Value} {tx:Int} {s:PSt} (h:PAt X w P U pv a nv b tx s) (i:Nat):PAt X (w.setCell ⟨U,i,none⟩ (.bool true)) P U pv a nv b tx { s with used:=s.used.set i true }:=by
 have hf:=fr_setT w U i (.bool true)
 obtain⟨a1,a2,a3,a4,a5⟩:=h.apart
 obtain⟨css,hp,hl,hc⟩:=h.pgs
 refine⟨(hf.block P (h.lt (.inl rfl)) h.ne).trans h.box,?_,by simp[h.len],⟨css,owns_fr hp hf (fun g e e'=>a2 (by rw[e,e'])),hl,pgs_fr hc hf (fun g e=>.inr (e ▸ h.nk (.inr (.inl rfl))))⟩,owns_fr h.nms hf (fun g e e'=>a4 (by rw[e,e']))⟩
 rw[heap_setT h.us]
 simp[List.map_set]
theorem PAt.fail {X:Nat->Prop} {w:World} {P U a b:Nat} {pv nv:Value} {tx:Int} {s:PSt} (h:PAt X w P U pv a nv b tx s):PAt X (w.setCell ⟨P,4,none⟩ (.bool true)) P U pv a nv b tx { s with bad:=true }:=by
 have hf:=fr_setT w P 4 (.bool true)
 obtain⟨a1,a2,a3,a4,a5⟩:=h.apart
 obtain⟨css,hp,hl,hc⟩:=h.pgs
 refine⟨?_,(hf.block U (h.lt (.inr (.inl rfl))) (fun e=>h.ne e.symm)).trans h.us,h.len,⟨css,owns_fr hp hf (fun g e e'=>a1 (by rw[e,e'])),hl,pgs_fr hc hf (fun g e=>.inr (e ▸ h.nk (.inl rfl)))⟩,owns_fr h.nms hf (fun g e e'=>a3 (by rw[e,e']))⟩
 rw[heap_setT h.box]
 simp
theorem PAt.pushP {X:Nat->Prop} {w w':World} {P U a b n:Nat} {pv nv v':Value} {tx:Int} {s:PSt} {css:List (List Value)} {cs:List Value} {c:PgC} {m:Int} (h:PAt X w P U pv a nv b tx s) (hl:css.length=a) (hc:∀ (i:Nat) cs,css[i]?=some cs->∃ n c,s.log[i]?=some (n,c)∧PgIs X w tx cs c) (hg1:s.log[a]?=some (m,c)) (hn:PgIs X w tx cs c) (ho:w'.ownsRow 0 93 9 v' (a+1) (css.flatten++cs)) (hg:w.grownBy w' pv.ownBlock):PAt X (w'.setCell ⟨P,2,none⟩ v') P U v' (a+1) nv b tx s:=by
 have hf:=fr_setT w' P 2 v'
 have hg2:Fr (fun g=>pv.ownBlock=some g) w w':=Fr.of_grown hg (fun g e=>e)
 obtain⟨a1,a2,a3,a4,a5⟩:=h.apart
 have hbox:=(hg2.block P (h.lt (.inl rfl)) a1).trans h.box
 have hus:=(hg2.block U (h.lt (.inr (.inl rfl))) a2).trans h.us
 have hn2:=owns_fr h.nms hg2 (fun g e e'=>a5 g e' e)
 have hft:Fr (fun g=>pv.ownBlock=some g∨g=P) w (w'.setCell ⟨P,2,none⟩ v'):=(hg2.weak (fun g e=>.inl e)).trans (hf.weak (fun g e=>.inr e))
 have hnk:∀ g,(pv.ownBlock=some g∨g=P)->X g∨NK w g:=fun g e=>.inr (e.elim (fun e=>h.nk (.inr (.inr (.inl e)))) (fun e=>e ▸ h.nk (.inl rfl)))
 refine⟨?_,(hf.block U (Nat.lt_of_lt_of_le (h.lt (.inr (.inl rfl))) hg2.size) (fun e=>h.ne e.symm)).trans hus,h.len,⟨css++[cs],by rw[List.flatten_append];simpa using owns_fr ho hf (fun g e e'=>own_ne_ty ho hbox (by decide) (by rw[e,e'])),by simp[hl],fun i x hi=>?_⟩,owns_fr hn2 hf (fun g e e'=>a3 (by rw[e,e']))⟩
 ·rw[heap_setT hbox]
  simp
 ·by_cases hia:i<css.length
  ·rw[List.getElem?_append_left hia] at hi
   obtain⟨n,c,e,hq⟩:=hc i x hi
   exact⟨n,c,e,hq.fr hft hnk⟩
  ·rw[List.getElem?_append_right (by omega)] at hi
   have h0:i - css.length=0:=by
    have:=(List.getElem?_eq_some_iff.1 hi).1
    simp at this
    omega
   rw[h0] at hi
   simp at hi
   subst hi
   obtain rfl:i=a:=by omega
   exact⟨m,c,hg1,hn.fr hft hnk⟩
theorem nms_snoc {l:List (Int × PgC)} {b:Nat} {y:Int} {c:PgC} (h:l[b]?=some (y,c)):rowsOf intCells ((l.take b).map Prod.fst)++[.int .i64 y]=rowsOf intCells ((l.take (b+1)).map Prod.fst):=by
 rw[List.take_add_one,h]
 simp[rowsOf,intCells]
theorem PAt.pushN {X:Nat->Prop} {w w':World} {P U a b:Nat} {pv nv v':Value} {tx y:Int} {s:PSt} {c:PgC} (h:PAt X w P U pv a nv b tx s) (hg1:s.log[b]?=some (y,c)) (ho:w'.ownsRow 0 2 1 v' (b+1) (rowsOf intCells ((s.log.take b).map Prod.fst)++[.int .i64 y])) (hg:w.grownBy w' nv.ownBlock):PAt X (w'.setCell ⟨P,3,none⟩ v') P U pv a v' (b+1) tx s:=by
 have hf:=fr_setT w' P 3 v'
 have hg2:Fr (fun g=>nv.ownBlock=some g) w w':=Fr.of_grown hg (fun g e=>e)
 obtain⟨a1,a2,a3,a4,a5⟩:=h.apart
 obtain⟨css,hp,hl,hc⟩:=h.pgs
 have hbox:=(hg2.block P (h.lt (.inl rfl)) a3).trans h.box
 have hus:=(hg2.block U (h.lt (.inr (.inl rfl))) a4).trans h.us
 have hn2:=owns_fr hp hg2 (fun g e e'=>a5 g e e')
 have hft:Fr (fun g=>nv.ownBlock=some g∨g=P) w (w'.setCell ⟨P,3,none⟩ v'):=(hg2.weak (fun g e=>.inl e)).trans (hf.weak (fun g e=>.inr e))
 have hnk:∀ g,(nv.ownBlock=some g∨g=P)->X g∨NK w g:=fun g e=>.inr (e.elim (fun e=>h.nk (.inr (.inr (.inr e)))) (fun e=>e ▸ h.nk (.inl rfl)))
 rw[nms_snoc hg1] at ho
 refine⟨?_,(hf.block U (Nat.lt_of_lt_of_le (h.lt (.inr (.inl rfl))) hg2.size) (fun e=>h.ne e.symm)).trans hus,h.len,⟨css,owns_fr hn2 hf (fun g e e'=>a1 (by rw[e,e'])),hl,pgs_fr hc hft hnk⟩,owns_fr ho hf (fun g e e'=>own_ne_ty ho hbox (by decide) (by rw[e,e']))⟩
 rw[heap_setT hbox]
 simp
theorem PAt.log {X:Nat->Prop} {w:World} {P U a b:Nat} {pv nv:Value} {tx:Int} {s:PSt} (h:PAt X w P U pv a nv b tx s) (l:List (Int × PgC)):PAt X w P U pv a nv b tx { s with log:=s.log++l }:=by
 obtain⟨css,hp,hl,hc⟩:=h.pgs
 have hb:b<=s.log.length:=by
  have:=h.nms.1
  rw[rowsOf_length (m:=1) (cs:=intCells) (fun _=>rfl),List.length_map,List.length_take] at this
  omega
 refine⟨h.box,h.us,h.len,⟨css,hp,hl,fun i cs hi=>?_⟩,?_⟩
 ·obtain⟨n,c,e,hq⟩:=hc i cs hi
  exact⟨n,c,by show (s.log++l)[i]?=_;rw[List.getElem?_append_left (List.getElem?_eq_some_iff.1 e).1,e],hq⟩
 ·show w.ownsRow _ _ _ _ _ (rowsOf intCells (((s.log++l).take b).map Prod.fst))
  rw[List.take_append_of_le_length hb]
  exact h.nms
set_option maxHeartbeats 3200000 in
theorem l4Next_any (X:Nat->Prop) (P U a b:Nat) (pv nv:Value) (tx:Int) (s:PSt) (w:World) (h:PAt X w P U pv a nv b tx s) :
  Calls Tryz.prog 46 #[.pointer (some ⟨P,0,none⟩)] w fun e w'=>e=.returned (.int .i64 (nxtP s).1)∧PAt X w' P U pv a nv b tx (nxtP s).2∧Fr (fun g=>g=P∨g=U) w w':=by
 obtain⟨q0,q1,q2,q3,q4⟩:=box5P h.box
 have fP:=thawT h.box
 have fU:=thawT h.us
 have lP:=h.lt (.inl rfl)
 have lU:=h.lt (.inr (.inl rfl))
 have HP:Hid (PAt X w P U pv a nv b tx s):=h
 clear h
 go_enter Tryz.func46,Tryz.ntmps46
 go_wp2_with fail
 go_loopw [3] (fun i wr=>∃ j:Nat,2<=j∧j<=1000∧i=.int .i64 j∧wr=w∧Hid (freeFrom s.used 2 998=freeFrom s.used j (1000 - j))) (fun i _=>1000 - (intOf i).toNat)
 case atStart=>exact⟨2,by omega,by omega,rfl,rfl,rfl⟩
 case round =>
  obtain⟨j,hj2,hj,rfl,rfl,HF⟩:=hrel
  by_cases hlt:j<1000
  ·have hc:=HP.out.cell hlt
   have HS:Hid (freeFrom s.used j (1000 - j)=if s.used.getD j true then freeFrom s.used (j+1) (1000 - (j+1)) else some j):=by
    show _=_
    rw[show 1000 - j=(1000 - (j+1))+1 by omega,freeFrom]
   cases hu:s.used.getD j true
   ·have HU:Hid (nxtP s=((j:Int),{ s with used:=s.used.set j true })):=by
     show _=_
     unfold nxtP
     rw[HF.out,HS.out,hu]
     rfl
    rw[hu] at hc
    go_wp2_with fail
    go_ret
    rw[HU.out]
    exact⟨rfl,HP.out.mark j,(fr_setT wr U j (.bool true)).weak (fun g e=>.inr e)⟩
   ·have HN:Hid (freeFrom s.used 2 998=freeFrom s.used (j+1) (1000 - (j+1))):=by
     show _=_
     rw[HF.out,HS.out,hu]
     rfl
    rw[hu] at hc
    go_wp2_with fail
    go_roundw
    case rel=>exact⟨j+1,by omega,by omega,by go_num,trivial,HN⟩
    case measure=>simp[intOf];omega
  ·have HU:Hid (nxtP s=(0,{ s with bad:=true })):=by
    show _=_
    unfold nxtP
    rw[HF.out,show 1000 - j=0 by omega,freeFrom]
   go_wp2_with fail
   go_ret
   rw[HU.out]
   exact⟨rfl,HP.out.fail,(fr_setT wr P 4 (.bool true)).weak (fun g e=>.inl e)⟩
theorem owns_someD {w:World} {base e size n c:Nat} {a:Option Addr} {xs:List Value} (h:w.ownsRow base e size (.slice a n c) n xs) (hn:0<n):∃ g,a=some ⟨g,0,none⟩:=by
 rcases h.2 with ⟨h0,h1⟩ | ⟨g,cap,cur,h0,_⟩
 ·omega
 ·injection h0 with h1;exact⟨g,h1⟩
def strB (s:ByteArray):List Int:=s.data.toList.map fun b=>(b.toNat:Int)
def toB (bs:List Int):ByteArray:=⟨(bs.map fun x=>UInt8.ofNat x.toNat).toArray⟩
theorem Fr.up2 {S T:Nat->Prop} {a b c:World} (h:Fr S a b) (k:Fr T b c) (hT:∀ g,T g->a.heap.size<=g):Fr S a c :=
 ⟨k.1.trans h.1,k.2.trans h.2,k.3.trans h.3,Nat.le_trans h.size k.size,fun g hg hS=>(k.block g (Nat.lt_of_lt_of_le hg h.size) (fun e=>by have:=hT g e;omega)).trans (h.block g hg hS)⟩
end Go.Proofs.YtkhglgalbifcnaaGreat
