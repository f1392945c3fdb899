import Derived.Test.YtbfggcekifaldaaGreatHTgg
import Derived.Test.YtbfggcekifaldaaGreatHTuo
import Derived.Test.YtbfggcekifaldaaGreatHTwe
namespace Go.Proofs.YtbfggcekifaldaaGreat
open Go.RowKit
set_option linter.unusedVariables false
set_option linter.unusedSimpArgs false
set_option maxRecDepth 100000
theorem own_setCellsE {base g n c e size:Nat}:∀ (vs:List Value) (o:Nat) (w:World) (xs:List Value),w.ownsRow base e size (.slice (some ⟨g,0,none⟩) n c) n xs->o+vs.length<=xs.length->(w.setCells g o vs).ownsRow base e size (.slice (some ⟨g,0,none⟩) n c) n (xs.take o++vs++xs.drop (o+vs.length))∧Fr (fun x=>x=g) w (w.setCells g o vs)
 | [],o,w,xs,h,_=>⟨by rw[show xs.take o++[]++xs.drop (o+([]:List Value).length)=xs by simp];exact h,Fr.refl _ _⟩
 | v::r,o,w,xs,h,hl=>by
  simp only[List.length_cons] at hl
  obtain⟨h1,h2⟩:=h.stored o v
  obtain⟨h3,h5⟩:=own_setCellsE r (o+1) (w.setCell ⟨g,o,none⟩ v) _ h1 (by rw[List.length_set];omega)
  refine⟨?_,(Fr.of_grown h2 (fun x e=>by cases e;rfl)).trans h5⟩
  have e1:(xs.set o v).take (o+1)=xs.take o++[v]:=by
   rw[List.set_eq_take_append_cons_drop,if_pos (by omega),List.take_append,List.take_of_length_le (by simp;omega)]
   simp[show min o xs.length=o by omega]
  have e2:(xs.set o v).drop (o+1+r.length)=xs.drop (o+(r.length+1)):=by
   rw[List.drop_set_of_lt (by omega)]
   congr 1
   omega
  rw[e1,e2] at h3
  have e3:xs.take o++v::r++xs.drop (o+(v::r).length)=xs.take o++[v]++r++xs.drop (o+(r.length+1)):=by simp
  rw[e3]
  exact h3
structure OL (w:World) (base:Nat) (Q:Nat->Prop) (ys:List T) (b c:Nat) (css:Nat->List Value):Prop where
 row:w.ownsRow base 47 6 (.slice (some ⟨b,0,none⟩) ys.length c) ys.length (rowsC css ys.length)
 kid:∀ (i:Nat) z,ys[i]?=some z->NodeQ w w.heap.size Q z (css i)
 off:¬ Q b
theorem NodeQ.six {w:World} {B:Nat} {Q:Nat->Prop} {z:T} {cs:List Value} (h:NodeQ w B Q z cs):cs.length=6:=by
 obtain⟨_,_,_,_,_,_,_,_,_,_,_,_,e,_⟩:=h.out
 rw[e];rfl
theorem OL.six {w:World} {base:Nat} {Q:Nat->Prop} {ys:List T} {b c:Nat} {css:Nat->List Value} (h:OL w base Q ys b c css):∀ i,i<ys.length->(css i).length=6:=fun i hi=>(h.kid i _ (List.getElem?_eq_getElem hi)).six
theorem OL.lt {w:World} {base:Nat} {Q:Nat->Prop} {ys:List T} {b c:Nat} {css:Nat->List Value} (h:OL w base Q ys b c css):base<=b∧b<w.heap.size:=h.row.lt b rfl
theorem OL.keep {w w':World} {base:Nat} {Q Q':Nat->Prop} {ys:List T} {b c:Nat} {css:Nat->List Value} (h:OL w base Q ys b c css) (hk:∀ g,Q g->g<w.heap.size->w'.heap[g]?=w.heap[g]?) (hb:w'.heap[b]?=w.heap[b]?) (hQ:∀ g,Q g->Q' g) (ho:¬ Q' b) (hB:w.heap.size<=w'.heap.size):OL w' base Q' ys b c css :=
 ⟨owns_keepG h.row (fun g hg=>by cases hg;exact hb),fun i z hz=>NodeQ.keep hk hQ hB z _ (h.kid i z hz),ho⟩
theorem OL.below {w w':World} {base:Nat} {Q Q':Nat->Prop} {ys:List T} {b c:Nat} {css:Nat->List Value} (h:OL w base Q ys b c css) (hb:Below w.heap.size w w') (hQ:∀ g,Q g->Q' g) (ho:¬ Q' b):OL w' base Q' ys b c css:=h.keep (fun g _ hl=>hb.block g hl) (hb.block b h.lt.2) hQ ho hb.size
theorem SN.letters {w:World} {Q:Nat->Prop} {t:T} {v:Value} (h:SN w Q t v):∃ lf pg ka kn kc va vn vc oa on oc ya yn yc,v=.agg #[.bool lf,.int .i64 pg,.slice ka kn kc,.slice va vn vc,.slice oa on oc,.slice ya yn yc]:=by
 obtain⟨ka,kn,kc,va,vn,vc,oa,on,oc,ya,yc,e⟩:=h.shape
 exact⟨_,_,ka,kn,kc,va,vn,vc,oa,on,oc,ya,_,yc,e⟩
theorem size_SN {w:World} {Q:Nat->Prop} {t:T} {v:Value} (h:SN w Q t v) (W:World):Calls Tryz.prog 34 #[v] W fun e w'=>e=.returned (.int .i64 t.size)∧Below W.heap.size W w':=by
 obtain⟨ka,kn,kc,va,vn,vc,oa,on,oc,ya,yc,css,rfl,hX⟩:=h
 exact l3Size_any t ka kn kc va vn vc oa on oc ya yc W hX.nx.keys.1
def Six (w:World) (b o:Nat) (lf:Bool) (pg:Int) (ka:Option Addr) (kn kc:Nat) (va:Option Addr) (vn vc:Nat) (oa:Option Addr) (on oc:Nat) (ya:Option Addr) (yn yc:Nat):Prop:=w.cell? ⟨b,o,none⟩=some (.bool lf)∧w.cell? ⟨b,o+1,none⟩=some (.int .i64 pg)∧w.cell? ⟨b,o+2,none⟩=some (.slice ka kn kc)∧w.cell? ⟨b,o+3,none⟩=some (.slice va vn vc)∧w.cell? ⟨b,o+4,none⟩=some (.slice oa on oc)∧w.cell? ⟨b,o+5,none⟩=some (.slice ya yn yc)
theorem Six.keep {w w':World} {b o:Nat} {lf:Bool} {pg:Int} {ka:Option Addr} {kn kc:Nat} {va:Option Addr} {vn vc:Nat} {oa:Option Addr} {on oc:Nat} {ya:Option Addr} {yn yc:Nat} (h:Six w b o lf pg ka kn kc va vn vc oa on oc ya yn yc) (hb:w'.heap[b]?=w.heap[b]?):Six w' b o lf pg ka kn kc va vn vc oa on oc ya yn yc:=by
 have hc:∀ x,w'.cell? ⟨b,x,none⟩=w.cell? ⟨b,x,none⟩:=fun x=>World.cell?_of_block (a:=⟨b,x,none⟩) hb
 obtain⟨h0,h1,h2,h3,h4,h5⟩:=h
 exact⟨(hc _).trans h0,(hc _).trans h1,(hc _).trans h2,(hc _).trans h3,(hc _).trans h4,(hc _).trans h5⟩
theorem OL.at {w:World} {base:Nat} {Q:Nat->Prop} {ys:List T} {b c:Nat} {css:Nat->List Value} (h:OL w base Q ys b c css) {i:Nat} {z:T} (hi:ys[i]?=some z):∃ lf pg ka kn kc va vn vc oa on oc ya yn yc,SN w Q z (.agg #[.bool lf,.int .i64 pg,.slice ka kn kc,.slice va vn vc,.slice oa on oc,.slice ya yn yc])∧Six w b (i*6) lf pg ka kn kc va vn vc oa on oc ya yn yc:=by
 have hl:=(List.getElem?_eq_some_iff.1 hi).1
 obtain⟨ka,kn,kc,va,vn,vc,oa,on,oc,ya,yc,css',e2,hx⟩:=(h.kid i z hi).out
 have hg:=rowsC_get h.six
 have hc:∀ j,j<6->w.cell? ⟨b,i*6+j,none⟩=(css i)[j]?:=fun j hj=>by rw[h.row.cellAt _ (by omega)];exact hg.2 i j hl hj
 rw[e2] at hc
 exact⟨_,_,ka,kn,kc,va,vn,vc,oa,on,oc,ya,_,yc,⟨_,_,_,_,_,_,_,_,_,_,_,_,rfl,hx⟩,by simpa using hc 0 (by omega),by simpa using hc 1 (by omega),by simpa using hc 2 (by omega),by simpa using hc 3 (by omega),by simpa using hc 4 (by omega),by simpa using hc 5 (by omega)⟩
theorem OL.thaw {w:World} {base:Nat} {Q:Nat->Prop} {ys:List T} {b c:Nat} {css:Nat->List Value} (h:OL w base Q ys b c css) (j:Nat):w.frozen? ⟨b,j,none⟩=false:=h.row.frozenAt j
def put6at (w:World) (b o:Nat) (u0 u1 u2 u3 u4 u5:Value):World:=(((((w.setCell ⟨b,o,none⟩ u0).setCell ⟨b,o+1,none⟩ u1).setCell ⟨b,o+2,none⟩ u2).setCell ⟨b,o+3,none⟩ u3).setCell ⟨b,o+4,none⟩ u4).setCell ⟨b,o+5,none⟩ u5
theorem OL.set {w:World} {base:Nat} {Q:Nat->Prop} {ys:List T} {b c:Nat} {css:Nat->List Value} (h:OL w base Q ys b c css) {i:Nat} (hi:i<ys.length) {z:T} {u0 u1 u2 u3 u4 u5:Value} (hz:SN w Q z (.agg #[u0,u1,u2,u3,u4,u5])):(∃ css',OL (put6at w b (i*6) u0 u1 u2 u3 u4 u5) base Q (ys.set i z) b c css')∧Fr (fun g=>g=b) w (put6at w b (i*6) u0 u1 u2 u3 u4 u5):=by
 have h6:=h.six
 have hg:=rowsC_get h6
 obtain⟨r1,f1⟩:=own_setCellsE [u0,u1,u2,u3,u4,u5] (i*6) w _ h.row (by rw[hg.1];simp;omega)
 have e:w.setCells b (i*6) [u0,u1,u2,u3,u4,u5]=put6at w b (i*6) u0 u1 u2 u3 u4 u5:=rfl
 rw[e] at r1 f1
 have hp:=rowsC_part h6 (k:=i) (by omega)
 have hp2:=rowsC_part h6 (k:=i+1) (by omega)
 have eu:[u0,u1,u2,u3,u4,u5]=rowsC (fun _=>[u0,u1,u2,u3,u4,u5]) 1:=by simp[rowsC]
 rw[show i*6+[u0,u1,u2,u3,u4,u5].length=(i+1)*6 by simp;omega,hp.1,hp2.2,eu,rowsC_app,rowsC_app,show i+1+(ys.length - (i+1))=ys.length by omega] at r1
 have hs:=f1.size
 have hkeep:∀ (z:T) cs,NodeQ w w.heap.size Q z cs->NodeQ (put6at w b (i*6) u0 u1 u2 u3 u4 u5) (put6at w b (i*6) u0 u1 u2 u3 u4 u5).heap.size Q z cs:=fun z cs hn=>NodeQ.keep (fun g hq hl=>f1.block g hl (fun e=>h.off (e ▸ hq))) (fun _ h=>h) hs z cs hn
 refine⟨⟨_,⟨by rw[List.length_set];exact r1,fun k y hk=>?_,h.off⟩⟩,f1⟩
 rcases getD_set hk with ⟨rfl,rfl,_⟩ | ⟨hne,hk2⟩
 ·simp only[Nat.lt_irrefl,if_false,Nat.lt_succ_self,if_true]
  exact hkeep _ _ hz.nodeQ
 ·have hkl:=(List.getElem?_eq_some_iff.1 hk2).1
  have:(if k<i+1 then (if k<i then css k else [u0,u1,u2,u3,u4,u5]) else css (k - (i+1)+(i+1)))=css k:=by
   by_cases h1:k<i
   ·rw[if_pos (by omega),if_pos h1]
   ·rw[if_neg (by omega),show k - (i+1)+(i+1)=k by omega]
  rw[this]
  exact hkeep _ _ (h.kid k y hk2)
theorem OL.sl {w:World} {base:Nat} {Q Q':Nat->Prop} {ys:List T} {b c:Nat} {css:Nat->List Value} (h:OL w base Q ys b c css) (hQ:∀ g,Q g->Q' g) (hb:∀ g,base<=g->Q' g):SL w Q' ys (.slice (some ⟨b,0,none⟩) ys.length c):=by
 obtain⟨a',c',e,hX⟩:=inn_mk (Q:=Q') h.row hb (fun i z hi=>NodeQ.keep (fun _ _ _=>rfl) hQ (Nat.le_refl _) z _ (h.kid i z hi))
 simp only[Value.slice.injEq] at e
 obtain⟨rfl,_,rfl⟩:=e
 exact⟨_,_,_,rfl,hX⟩
theorem lens_le {x:T} (h:Lens x) (hs:x.size<=900):x.keys.length<=1000∧x.vals.length<=1000∧x.over.length<=1000∧x.kids.length<=1000:=by
 unfold T.size at hs
 cases hl:x.leaf
 ·obtain⟨e1,e2,e3⟩:=h.2 hl
  rw[hl] at hs
  simp only[Bool.false_eq_true,if_false] at hs
  rw[e1,e2,e3]
  exact⟨by simp,by simp,by simp,by omega⟩
 ·obtain⟨e1,e2,e3⟩:=h.1 hl
  rw[hl] at hs
  simp only[if_true] at hs
  rw[e1,e2,e3]
  exact⟨by omega,by omega,by omega,by simp⟩
theorem Lens.slim {x:T} (h:Lens x):Slim x:=⟨fun hl=>⟨(h.1 hl).2.2,(h.1 hl).1,(h.1 hl).2.1⟩,h.2⟩
theorem Lens.rest {x:T} (h:Lens x) (k:Nat):Lens (x.rest k):=by
 unfold T.rest
 refine⟨fun hl=>?_,fun hl=>?_⟩
 ·obtain⟨e1,e2,e3⟩:=h.1 hl
  exact⟨by simp[e1],by simp[e2],by simp[e3]⟩
 ·obtain⟨e1,e2,e3⟩:=h.2 hl
  exact⟨by simp[e1],by simp[e2],by simp[e3]⟩
theorem Lens.fore {x:T} (h:Lens x) (k:Nat):Lens (x.fore k):=by
 unfold T.fore
 refine⟨fun hl=>?_,fun hl=>?_⟩
 ·obtain⟨e1,e2,e3⟩:=h.1 hl
  exact⟨by simp[e1],by simp[e2],by simp[e3]⟩
 ·obtain⟨e1,e2,e3⟩:=h.2 hl
  exact⟨by simp[e1],by simp[e2],by simp[e3]⟩
theorem size_rest {x:T} (k:Nat):(x.rest k).size<=x.size∧(x.fore k).size<=x.size:=by
 unfold T.size T.rest T.fore
 cases x.leaf<;>simp<;>omega
theorem box_six {w:World} {N:Nat} {t:TypeId} {lf:Bool} {pg:Int} {ka:Option Addr} {kn kc:Nat} {va:Option Addr} {vn vc:Nat} {oa:Option Addr} {on oc:Nat} {ya:Option Addr} {yn yc:Nat} (h:w.heap[N]?=some (.cells #[.bool lf,.int .i64 pg,.slice ka kn kc,.slice va vn vc,.slice oa on oc,.slice ya yn yc] t)):Six w N 0 lf pg ka kn kc va vn vc oa on oc ya yn yc:=by
 simp[Six,World.cell?,h]
end Go.Proofs.YtbfggcekifaldaaGreat
