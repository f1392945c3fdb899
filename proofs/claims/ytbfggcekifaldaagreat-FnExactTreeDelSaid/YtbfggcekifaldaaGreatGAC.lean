import Derived.Test.YtbfggcekifaldaaGreatGAA
import Derived.Test.YtbfggcekifaldaaGreatGAB
import Derived.OwnWalk
import Derived.ArgAppend
namespace Go.Proofs.YtbfggcekifaldaaGreat
set_option maxHeartbeats 1000000
open Go.RowKit
set_option linter.unusedVariables false
set_option linter.unusedSimpArgs false
set_option maxRecDepth 100000
theorem info_string:(Tryz.prog.info? 9).map (fun i=>(i.zero,i.size,i.bytes))=some (some (.string ByteArray.empty),1,16):=by kernel_rfl
theorem info_int64:(Tryz.prog.info? 2).map (fun i=>(i.zero,i.size,i.bytes))=some (some (.int .i64 0),1,8):=by kernel_rfl
theorem info_TNodeT:(Tryz.prog.info? 70).map (fun i=>(i.zero,i.size,i.bytes))=some (some (.agg #[.bool false,.int .i64 0,.slice none 0 0,.slice none 0 0,.slice none 0 0,.slice none 0 0]),6,112):=by kernel_rfl
theorem set_one {α:Type} {cs:α->List Value} (hc:∀ x,(cs x).length=1) {xs:List Value} {n k:Nat} {d p:α} {v:Value} {rs:List α} (hl:rs.length=n) (hk:k<n) (hp:p=rs.getD k d) (hv:cs p=[v]) (hx:xs.length=n*1) (h:∀ j,j<k->xs[j]?=(rowsOf cs rs)[j]?) :
  ∀ j,j<k+1->(xs.set k v)[j]?=(rowsOf cs rs)[j]?:=by
 intro j hj
 have e0:=rowsOf_get hc d rs k 0 (by omega) (by omega)
 by_cases h0:j=k
 ·subst h0
  rw [List.getElem?_set_self (by omega)]
  rw [<-hp,hv] at e0
  simpa using e0.symm
 ·rw [List.getElem?_set_ne (by omega)]
  exact h j (by omega)
theorem toStringS_any (a:Option Addr) (n c:Nat) (ks:List ByteArray) (w:World) (A B:Nat) (hB:B<=w.heap.size) (h:StrsAt w A B a n c ks) (hn:n<=1048576) :
  Calls Tryz.prog 54 #[.slice a n c] w fun e w'=>∃ g,w.heap.size<=g∧e=.returned (.slice (some ⟨g,0,none⟩) n n)∧w'.ownsRow w.heap.size 9 1 (.slice (some ⟨g,0,none⟩) n n) n (rowsOf strCells ks)∧Below w.heap.size w w':=by
 have hl:=h.1
 have HL:Hid (ks.length=n):=hl
 clear hl
 obtain ⟨i0,hi,hz0,hz1,hz2⟩:=info_parts info_string
 go_enter Tryz.func54,Tryz.ntmps54
 go_wp2_with (at_make;refine wpList_make_full _ rfl _ _ 43 rfl w.heap.size 9 i0 _ 1 Tryz.underlying43 hi hz0 hz1 .i64 .i64 n n n rfl rfl rfl rfl (by rw [hz2];omega) (by unfold maxLen;omega) (Nat.le_refl _) ?_;intro w1 hown hgr)
 have hb1:Below w.heap.size w w1:=(Below.refl _ _).grown hgr (Nat.le_refl _) (by simp)
 go_loopw [4] (fun i wr=>∃ k:Nat,k<=n∧i=.int .i64 k∧Below w.heap.size w wr∧∃ xs,wr.ownsRow w.heap.size 9 1 (.slice (some ⟨w.heap.size,0,none⟩) n n) n xs∧∀ j,j<k->xs[j]?=(rowsOf strCells ks)[j]?) (fun i _=>n - (intOf i).toNat)
 case atStart=>exact ⟨0,Nat.zero_le _,rfl,hb1,_,hown,fun j hj=>by omega⟩
 case round =>
  clear hown hgr hb1
  obtain ⟨k,hk,rfl,hbel,xs,hown,hgot⟩:=hrel
  have HG:Hid (∀ j,j<k->xs[j]?=(rowsOf strCells ks)[j]?):=hgot
  clear hgot
  by_cases hlt:k<n
  ·obtain ⟨b,off,rfl,hb,hfit,e0⟩:=StrsAt.at (h.below (hbel.mono hB)) hlt
   have HS:Hid (∀ j,j<k+1->(xs.set k (.string (ks.getD k ByteArray.empty)))[j]?=(rowsOf strCells ks)[j]?):=set_one sc1 HL.out hlt rfl rfl hown.1 HG.out
   generalize ks.getD k ByteArray.empty=s at e0 hfit HS
   clear h
   have hs:=hbel.size
   have hlt0:=(hown.lt w.heap.size rfl).2
   have hxl:=hown.1
   have R:=hown.stored k (.string s)
   have hbel3:=hbel.setCell (p:=⟨w.heap.size,k,none⟩) (Nat.le_refl _) (.string s)
   have hf1:=hown.frozenAt k
   obtain ⟨u,hu⟩:∃ u,wr.cell? ⟨w.heap.size,k,none⟩=some u:=⟨xs[k]'(by omega),by rw [hown.cellAt k (by omega)];exact List.getElem?_eq_getElem _⟩
   clear hown
   go_wp2
   go_roundw
   case rel=>exact ⟨k+1,by omega,by go_num,hbel3,_,R.1,HS.out⟩
   case measure=>simp [intOf];omega
  ·go_wp2
   go_ret
   have hkn:k=n:=by omega
   refine ⟨w.heap.size,Nat.le_refl _,rfl,?_,hbel⟩
   rw [show rowsOf strCells ks=xs from ?_]
   ·exact hown
   ·refine (List.ext_getElem? fun j=>?_).symm
    by_cases hj:j<n
    ·exact HG.out j (by omega)
    ·rw [List.getElem?_eq_none (by rw [hown.1];omega),List.getElem?_eq_none (by rw [rowsOf_length sc1,HL.out];omega)]
theorem toInt64S_any (a:Option Addr) (n c:Nat) (ks:List Int) (w:World) (A B:Nat) (hB:B<=w.heap.size) (h:IntsAt w A B a n c ks) (hn:n<=1048576) :
  Calls Tryz.prog 55 #[.slice a n c] w fun e w'=>∃ g,w.heap.size<=g∧e=.returned (.slice (some ⟨g,0,none⟩) n n)∧w'.ownsRow w.heap.size 2 1 (.slice (some ⟨g,0,none⟩) n n) n (rowsOf intCells ks)∧Below w.heap.size w w':=by
 have hl:=h.1
 have HL:Hid (ks.length=n):=hl
 clear hl
 obtain ⟨i0,hi,hz0,hz1,hz2⟩:=info_parts info_int64
 go_enter Tryz.func55,Tryz.ntmps55
 go_wp2_with (at_make;refine wpList_make_full _ rfl _ _ 44 rfl w.heap.size 2 i0 _ 1 Tryz.underlying44 hi hz0 hz1 .i64 .i64 n n n rfl rfl rfl rfl (by rw [hz2];omega) (by unfold maxLen;omega) (Nat.le_refl _) ?_;intro w1 hown hgr)
 have hb1:Below w.heap.size w w1:=(Below.refl _ _).grown hgr (Nat.le_refl _) (by simp)
 go_loopw [4] (fun i wr=>∃ k:Nat,k<=n∧i=.int .i64 k∧Below w.heap.size w wr∧∃ xs,wr.ownsRow w.heap.size 2 1 (.slice (some ⟨w.heap.size,0,none⟩) n n) n xs∧∀ j,j<k->xs[j]?=(rowsOf intCells ks)[j]?) (fun i _=>n - (intOf i).toNat)
 case atStart=>exact ⟨0,Nat.zero_le _,rfl,hb1,_,hown,fun j hj=>by omega⟩
 case round =>
  clear hown hgr hb1
  obtain ⟨k,hk,rfl,hbel,xs,hown,hgot⟩:=hrel
  have HG:Hid (∀ j,j<k->xs[j]?=(rowsOf intCells ks)[j]?):=hgot
  clear hgot
  by_cases hlt:k<n
  ·obtain ⟨b,off,rfl,hb,hfit,e0⟩:=IntsAt.at (h.below (hbel.mono hB)) hlt
   have HS:Hid (∀ j,j<k+1->(xs.set k (.int .i64 (ks.getD k 0)))[j]?=(rowsOf intCells ks)[j]?):=set_one ic1 HL.out hlt rfl rfl hown.1 HG.out
   generalize ks.getD k 0=s at e0 hfit HS
   clear h
   have hs:=hbel.size
   have hlt0:=(hown.lt w.heap.size rfl).2
   have hxl:=hown.1
   have R:=hown.stored k (.int .i64 s)
   have hbel3:=hbel.setCell (p:=⟨w.heap.size,k,none⟩) (Nat.le_refl _) (.int .i64 s)
   have hf1:=hown.frozenAt k
   obtain ⟨u,hu⟩:∃ u,wr.cell? ⟨w.heap.size,k,none⟩=some u:=⟨xs[k]'(by omega),by rw [hown.cellAt k (by omega)];exact List.getElem?_eq_getElem _⟩
   clear hown
   go_wp2
   go_roundw
   case rel=>exact ⟨k+1,by omega,by go_num,hbel3,_,R.1,HS.out⟩
   case measure=>simp [intOf];omega
  ·go_wp2
   go_ret
   have hkn:k=n:=by omega
   refine ⟨w.heap.size,Nat.le_refl _,rfl,?_,hbel⟩
   rw [show rowsOf intCells ks=xs from ?_]
   ·exact hown
   ·refine (List.ext_getElem? fun j=>?_).symm
    by_cases hj:j<n
    ·exact HG.out j (by omega)
    ·rw [List.getElem?_eq_none (by rw [hown.1];omega),List.getElem?_eq_none (by rw [rowsOf_length ic1,HL.out];omega)]
theorem heap_setT {w:World} {b t:Nat} {cs:Array Value} (h:w.heap[b]?=some (.cells cs t (0,0))) (o:Nat) (v:Value):(w.setCell ⟨b,o,none⟩ v).heap[b]?=some (.cells (cs.setIfInBounds o v) t (0,0)):=by
 obtain ⟨hlt,hk⟩:=Array.getElem?_eq_some_iff.1 h
 show (w.heap.modify b _)[b]?=_
 rw [Array.getElem?_eq_getElem (by rw [Array.size_modify];exact hlt),Array.getElem_modify_self,hk]
 rfl
theorem fr_setT (w:World) (b o:Nat) (v:Value):Fr (fun k=>k=b) w (w.setCell ⟨b,o,none⟩ v) :=
 ⟨rfl,rfl,rfl,by simp [World.setCell],fun k _ hk=>by
  show (w.heap.modify b _)[k]?=_
  rw [Array.getElem?_modify,if_neg (fun e=>hk e.symm)]⟩
theorem thawT {w:World} {g:Nat} {cs:Array Value} {t:TypeId} (h:w.heap[g]?=some (.cells cs t)):∀ o,w.frozen? ⟨g,o,none⟩=false:=by
 intro o;simp [World.frozen?,h]
def put6T (w:World) (N:Nat) (u0 u1 u2 u3 u4 u5:Value):World:=(((((w.setCell ⟨N,0,none⟩ u0).setCell ⟨N,1,none⟩ u1).setCell ⟨N,2,none⟩ u2).setCell ⟨N,3,none⟩ u3).setCell ⟨N,4,none⟩ u4).setCell ⟨N,5,none⟩ u5
theorem put6T_box {w:World} {N t:Nat} {v0 v1 v2 v3 v4 v5:Value} (h:w.heap[N]?=some (.cells #[v0,v1,v2,v3,v4,v5] t)) (u0 u1 u2 u3 u4 u5:Value):(put6T w N u0 u1 u2 u3 u4 u5).heap[N]?=some (.cells #[u0,u1,u2,u3,u4,u5] t):=by
 simp [put6T,World.setCell,Array.getElem?_modify,h]
theorem put6T_fr (w:World) (N:Nat) (u0 u1 u2 u3 u4 u5:Value):Fr (fun x=>x=N) w (put6T w N u0 u1 u2 u3 u4 u5) :=
 (((((fr_setT _ _ _ _).trans (fr_setT _ _ _ _)).trans (fr_setT _ _ _ _)).trans (fr_setT _ _ _ _)).trans (fr_setT _ _ _ _)).trans (fr_setT _ _ _ _)
theorem alloc3 (w:World) (a b c:Obj):(((w.alloc a).alloc b).alloc c).heap[w.heap.size]?=some a∧(((w.alloc a).alloc b).alloc c).heap[w.heap.size+1]?=some b∧(((w.alloc a).alloc b).alloc c).heap[w.heap.size+1+1]?=some c:=by
 have s1:(w.alloc a).heap.size=w.heap.size+1:=by simp
 have s2:((w.alloc a).alloc b).heap.size=w.heap.size+1+1:=by simp
 have e1:=heap_alloc_new w a
 have e2:=heap_alloc_new (w.alloc a) b
 have e3:=heap_alloc_new ((w.alloc a).alloc b) c
 have k2:=(Below.refl (w.alloc a).heap.size (w.alloc a)).alloc (Nat.le_refl _) b
 have k3:=(Below.refl ((w.alloc a).alloc b).heap.size ((w.alloc a).alloc b)).alloc (Nat.le_refl _) c
 rw [s1] at e2
 rw [s2] at e3
 exact ⟨(k3.block _ (by omega)).trans ((k2.block _ (by omega)).trans e1),(k3.block _ (by omega)).trans e2,e3⟩
def RoomL (w:World) (lo:Nat) (a:Option Addr) (n:Nat):Prop:=0<n->∃ b off,a=some ⟨b,off,none⟩∧(lo<=b∧b<w.heap.size)∧∀ i,i<n->(∃ v,w.cell? ⟨b,off+i,none⟩=some v)∧w.frozen? ⟨b,off+i,none⟩=false
theorem RoomL.below {w w':World} {lo:Nat} {a:Option Addr} {n:Nat} (h:RoomL w lo a n) (hb:Below w.heap.size w w'):RoomL w' lo a n:=fun hn=>by
 obtain ⟨b,off,e,hl,hc⟩:=h hn
 refine ⟨b,off,e,⟨hl.1,Nat.lt_of_lt_of_le hl.2 hb.size⟩,fun i hi=>?_⟩
 obtain ⟨⟨v,hv⟩,hf⟩:=hc i hi
 have hk:=hb.block b hl.2
 exact ⟨⟨v,(World.cell?_of_block (w:=w) (a:=⟨b,off+i,none⟩) hk).trans hv⟩,by simpa [World.frozen?,hk] using hf⟩
theorem room_set (w:World) (p:Addr) (u:Value) (b o:Nat) (h:∃ v,w.cell? ⟨b,o,none⟩=some v) (hf:w.frozen? ⟨b,o,none⟩=false):(∃ v,(w.setCell p u).cell? ⟨b,o,none⟩=some v)∧(w.setCell p u).frozen? ⟨b,o,none⟩=false:=by
 obtain ⟨v,hv⟩:=h
 by_cases hpb:p.block=b
 ·cases hb:w.heap[b]? with
  | none=>simp [World.cell?,hb] at hv
  | some ob =>
   cases ob with
   | cells cs t fz =>
    have hm:(w.setCell p u).heap[b]?=some (.cells (if p.spot.isSome then cs else cs.setIfInBounds p.off u) t fz):=by
     show (w.heap.modify p.block _)[b]?=_
     rw [hpb,Array.getElem?_modify,if_pos rfl,hb]
     rfl
    have ho:o<cs.size:=by
     simp [World.cell?,hb] at hv
     exact (Array.getElem?_eq_some_iff.1 hv).1
    refine ⟨?_,by simpa [World.frozen?,hm,hb] using hf⟩
    simp only [World.cell?,hm]
    have hs:o<(if p.spot.isSome then cs else cs.setIfInBounds p.off u).size:=by
     split
     ·exact ho
     ·rw [Array.size_setIfInBounds];exact ho
    have hq:=Array.getElem?_eq_getElem hs
    generalize (if p.spot.isSome then cs else cs.setIfInBounds p.off u)=ds at hs hq ⊢
    exact ⟨ds[o],by simp [hq]⟩
   | _=>simp [World.cell?,hb] at hv
 ·have hk:(w.setCell p u).heap[b]?=w.heap[b]?:=by
   show (w.heap.modify p.block _)[b]?=_
   rw [Array.getElem?_modify,if_neg hpb]
  exact ⟨⟨v,(World.cell?_of_block (w:=w) (a:=⟨b,o,none⟩) hk).trans hv⟩,by simpa [World.frozen?,hk] using hf⟩
theorem RoomL.set {w:World} {lo:Nat} {a:Option Addr} {n:Nat} (h:RoomL w lo a n) (p:Addr) (u:Value):RoomL (w.setCell p u) lo a n:=fun hn=>by
 obtain ⟨b,off,e,hl,hc⟩:=h hn
 exact ⟨b,off,e,⟨hl.1,by simpa [World.setCell] using hl.2⟩,fun i hi=>room_set w p u b (off+i) (hc i hi).1 (hc i hi).2⟩
theorem RoomL.lower {w:World} {lo lo':Nat} {a:Option Addr} {n:Nat} (h:RoomL w lo a n) (hl:lo'<=lo):RoomL w lo' a n:=fun hn=>by
 obtain ⟨b,off,e,h1,hc⟩:=h hn
 exact ⟨b,off,e,⟨by omega,h1.2⟩,hc⟩
theorem room_of_own {w:World} {base e g n c:Nat} {xs:List Value} (h:w.ownsRow base e 1 (.slice (some ⟨g,0,none⟩) n c) n xs):RoomL w base (some ⟨g,0,none⟩) n:=fun hn =>
 ⟨g,0,rfl,h.lt g rfl,fun i hi=>⟨⟨xs[i]'(by have:=h.1;omega),by rw [Nat.zero_add,h.cellAt i (by omega)];exact List.getElem?_eq_getElem _⟩,by rw [Nat.zero_add];exact h.frozenAt i⟩⟩
theorem RoomL.put6 {w:World} {lo:Nat} {a:Option Addr} {n:Nat} (h:RoomL w lo a n) (N:Nat) (u0 u1 u2 u3 u4 u5:Value):RoomL (put6T w N u0 u1 u2 u3 u4 u5) lo a n:=(((((h.set _ u0).set _ u1).set _ u2).set _ u3).set _ u4).set _ u5
structure TSt (w W:World) (N:Nat) (c r o:Array Value):Prop where
 arg:W.heap[N]?=some (.cells c 64)
 res:W.heap[N+1]?=some (.cells r 70)
 out:W.heap[N+1+1]?=some (.cells o 70)
 bel:Below w.heap.size w W
 lt:N+1+1<W.heap.size
theorem TSt.below {w W W':World} {N:Nat} {c r o:Array Value} (h:TSt w W N c r o) (hb:Below W.heap.size W W') (hN:w.heap.size=N):TSt w W' N c r o :=
 ⟨(hb.block _ (by have:=h.lt;omega)).trans h.arg,(hb.block _ (by have:=h.lt;omega)).trans h.res,(hb.block _ h.lt).trans h.out,h.bel.trans (hb.mono (by have:=h.lt;omega)),Nat.lt_of_lt_of_le h.lt hb.size⟩
theorem TSt.set {w W:World} {N:Nat} {c r o:Array Value} (h:TSt w W N c r o) (hN:w.heap.size=N) (i:Nat) (v:Value):TSt w (W.setCell ⟨N+1+1,i,none⟩ v) N c r (o.setIfInBounds i v) :=
 ⟨((fr_setT W (N+1+1) i v).block N (by have:=h.lt;omega) (by omega)).trans h.arg,((fr_setT W (N+1+1) i v).block (N+1) (by have:=h.lt;omega) (by omega)).trans h.res,heap_setT h.out i v,h.bel.trans ((fr_setT W (N+1+1) i v).below (by have:=h.lt;omega) (fun g e=>by omega)),by simpa [World.setCell] using h.lt⟩
theorem toTNode_any (lf:Bool) (pg:Int) (ks vs:List ByteArray) (os ys:List Int) (ka:Option Addr) (kn kc:Nat) (va:Option Addr) (vn vc:Nat) (oa:Option Addr) (on oc:Nat) (ya:Option Addr) (yn yc:Nat) (w:World) (A B:Nat) (hB:B<=w.heap.size)
  (hK:StrsAt w A B ka kn kc ks) (hV:StrsAt w A B va vn vc vs) (hO:IntsAt w A B oa on oc os) (hY:IntsAt w A B ya yn yc ys) (h1:kn<=1048576) (h2:vn<=1048576) (h3:on<=1048576) (h4:yn<=1048576) :
  Calls Tryz.prog 37 #[.agg #[.bool lf,.int .i64 pg,.slice ka kn kc,.slice va vn vc,.slice oa on oc,.slice ya yn yc]] w fun e w'=>∃ k v o y,e=.returned (.agg #[.bool lf,.int .i64 pg,.slice (some ⟨k,0,none⟩) kn kn,.slice (some ⟨v,0,none⟩) vn vn,.slice (some ⟨o,0,none⟩) on on,.slice (some ⟨y,0,none⟩) yn yn]) ∧
   StrsAt w' w.heap.size w'.heap.size (some ⟨k,0,none⟩) kn kn ks∧StrsAt w' w.heap.size w'.heap.size (some ⟨v,0,none⟩) vn vn vs∧IntsAt w' w.heap.size w'.heap.size (some ⟨o,0,none⟩) on on os∧IntsAt w' w.heap.size w'.heap.size (some ⟨y,0,none⟩) yn yn ys∧Below w.heap.size w w'∧(RoomL w' w.heap.size (some ⟨k,0,none⟩) kn∧RoomL w' w.heap.size (some ⟨v,0,none⟩) vn∧RoomL w' w.heap.size (some ⟨o,0,none⟩) on∧RoomL w' w.heap.size (some ⟨y,0,none⟩) yn):=by
 obtain ⟨N,hN⟩:∃ N,w.heap.size=N:=⟨_,rfl⟩
 have S0:TSt w (((w.alloc (.cells #[.bool lf,.int .i64 pg,.slice ka kn kc,.slice va vn vc,.slice oa on oc,.slice ya yn yc] 64)).alloc (.cells #[.bool false,.int .i64 0,.slice none 0 0,.slice none 0 0,.slice none 0 0,.slice none 0 0] 70)).alloc (.cells #[.bool lf,.int .i64 pg,.slice none 0 0,.slice none 0 0,.slice none 0 0,.slice none 0 0] 70)) N #[.bool lf,.int .i64 pg,.slice ka kn kc,.slice va vn vc,.slice oa on oc,.slice ya yn yc] #[.bool false,.int .i64 0,.slice none 0 0,.slice none 0 0,.slice none 0 0,.slice none 0 0] #[.bool lf,.int .i64 pg,.slice none 0 0,.slice none 0 0,.slice none 0 0,.slice none 0 0]:=by
  subst hN
  exact ⟨(alloc3 w _ _ _).1,(alloc3 w _ _ _).2.1,(alloc3 w _ _ _).2.2,(((Below.refl _ _).alloc (Nat.le_refl _) _).alloc (by simp) _).alloc (by simp;omega) _,by simp⟩
 go_enter Tryz.func37,Tryz.ntmps37
 go_wp2_with fail
 generalize (((w.alloc (.cells #[.bool lf,.int .i64 pg,.slice ka kn kc,.slice va vn vc,.slice oa on oc,.slice ya yn yc] 64)).alloc (.cells #[.bool false,.int .i64 0,.slice none 0 0,.slice none 0 0,.slice none 0 0,.slice none 0 0] 70)).alloc (.cells #[.bool lf,.int .i64 pg,.slice none 0 0,.slice none 0 0,.slice none 0 0,.slice none 0 0] 70))=W0 at S0 ⊢
 refine (toStringS_any _ _ _ ks W0 A B (by have:=S0.bel.size;omega) (hK.below (S0.bel.mono hB)) h1).mono ?_
 rintro e w1 ⟨g1,hg1,rfl,o1,b1⟩
 obtain ⟨_,_,e1,r1⟩:=RowsAt.of_owns (fit:=strFit) (d:=ByteArray.empty) sc1 o1 hK.1 hK.2.2.2.1
 cases e1
 have r1':=r1.up (A':=N+3) (B':=w1.heap.size) (by have:=S0.lt;omega) (Nat.le_refl _)
 have m1:=(room_of_own o1).lower (lo':=N) (by have:=S0.lt;omega)
 have S1:=S0.below b1 hN
 clear S0 b1 o1 r1 hK
 have l1:=S1.lt
 obtain ⟨x0,x1,x2,x3,x4,x5⟩:=box6 S1.arg
 obtain ⟨y0,y1,y2,y3,y4,y5⟩:=box6 S1.out
 have f1:=thawT S1.out
 have S2:=S1.set hN 2 (.slice (some ⟨g1,0,none⟩) kn kn)
 have q1:=r1'.keep ((Keeps.refl _ _ _).set (p:=⟨N+1+1,2,none⟩) (.inl (by simp)) (.slice (some ⟨g1,0,none⟩) kn kn))
 have z1:(w1.setCell ⟨N+1+1,2,none⟩ (.slice (some ⟨g1,0,none⟩) kn kn)).heap.size=w1.heap.size:=by simp [World.setCell]
 have t1:N<w1.heap.size:=by omega
 have m1:=m1.set ⟨N+1+1,2,none⟩ (.slice (some ⟨g1,0,none⟩) kn kn)
 clear S1 r1'
 go_wp2_with fail
 generalize (w1.setCell ⟨N+1+1,2,none⟩ (.slice (some ⟨g1,0,none⟩) kn kn))=W1 at S2 q1 z1 m1 ⊢
 clear x0 x1 x2 x3 x4 x5 y0 y1 y2 y3 y4 y5 f1
 refine (toStringS_any _ _ _ vs W1 A B (by have:=S2.bel.size;omega) (hV.below (S2.bel.mono hB)) h2).mono ?_
 rintro e w2 ⟨g2,hg2,rfl,o2,b2⟩
 obtain ⟨_,_,e1,r2⟩:=RowsAt.of_owns (fit:=strFit) (d:=ByteArray.empty) sc1 o2 hV.1 hV.2.2.2.1
 cases e1
 have r2':=r2.up (A':=N+3) (B':=w2.heap.size) (by have:=S2.lt;omega) (Nat.le_refl _)
 have q1':=(q1.below (by rw [<-z1];exact b2)).up (A':=N+3) (B':=w2.heap.size) (Nat.le_refl _) (by rw [<-z1];exact b2.size)
 have m1:=m1.below b2
 have m2:=(room_of_own o2).lower (lo':=N) (by have:=S2.lt;omega)
 have S3:=S2.below b2 hN
 clear S2 b2 o2 r2 hV q1 z1 l1 t1
 have l2:=S3.lt
 obtain ⟨x0,x1,x2,x3,x4,x5⟩:=box6 S3.arg
 obtain ⟨y0,y1,y2,y3,y4,y5⟩:=box6 S3.out
 have f1:=thawT S3.out
 have S4:=S3.set hN 3 (.slice (some ⟨g2,0,none⟩) vn vn)
 have q1:=q1'.keep ((Keeps.refl _ _ _).set (p:=⟨N+1+1,3,none⟩) (.inl (by simp)) (.slice (some ⟨g2,0,none⟩) vn vn))
 have q2:=r2'.keep ((Keeps.refl _ _ _).set (p:=⟨N+1+1,3,none⟩) (.inl (by simp)) (.slice (some ⟨g2,0,none⟩) vn vn))
 have z2:(w2.setCell ⟨N+1+1,3,none⟩ (.slice (some ⟨g2,0,none⟩) vn vn)).heap.size=w2.heap.size:=by simp [World.setCell]
 have t2:N<w2.heap.size:=by omega
 have m1:=m1.set ⟨N+1+1,3,none⟩ (.slice (some ⟨g2,0,none⟩) vn vn)
 have m2:=m2.set ⟨N+1+1,3,none⟩ (.slice (some ⟨g2,0,none⟩) vn vn)
 clear S3 r2' q1'
 go_wp2_with fail
 generalize (w2.setCell ⟨N+1+1,3,none⟩ (.slice (some ⟨g2,0,none⟩) vn vn))=W2 at S4 q1 q2 z2 m1 m2 ⊢
 clear x0 x1 x2 x3 x4 x5 y0 y1 y2 y3 y4 y5 f1
 refine (toInt64S_any _ _ _ os W2 A B (by have:=S4.bel.size;omega) (hO.below (S4.bel.mono hB)) h3).mono ?_
 rintro e w3 ⟨g3,hg3,rfl,o3,b3⟩
 obtain ⟨_,_,e1,r3⟩:=RowsAt.of_owns (fit:=I64) (d:=0) ic1 o3 hO.1 hO.2.2.2.1
 cases e1
 have r3':=r3.up (A':=N+3) (B':=w3.heap.size) (by have:=S4.lt;omega) (Nat.le_refl _)
 have q1':=(q1.below (by rw [<-z2];exact b3)).up (A':=N+3) (B':=w3.heap.size) (Nat.le_refl _) (by rw [<-z2];exact b3.size)
 have q2':=(q2.below (by rw [<-z2];exact b3)).up (A':=N+3) (B':=w3.heap.size) (Nat.le_refl _) (by rw [<-z2];exact b3.size)
 have m1:=m1.below b3
 have m2:=m2.below b3
 have m3:=(room_of_own o3).lower (lo':=N) (by have:=S4.lt;omega)
 have S5:=S4.below b3 hN
 clear S4 b3 o3 r3 hO q1 q2 z2 l2 t2
 have l3:=S5.lt
 obtain ⟨x0,x1,x2,x3,x4,x5⟩:=box6 S5.arg
 obtain ⟨y0,y1,y2,y3,y4,y5⟩:=box6 S5.out
 have f1:=thawT S5.out
 have S6:=S5.set hN 4 (.slice (some ⟨g3,0,none⟩) on on)
 have q1:=q1'.keep ((Keeps.refl _ _ _).set (p:=⟨N+1+1,4,none⟩) (.inl (by simp)) (.slice (some ⟨g3,0,none⟩) on on))
 have q2:=q2'.keep ((Keeps.refl _ _ _).set (p:=⟨N+1+1,4,none⟩) (.inl (by simp)) (.slice (some ⟨g3,0,none⟩) on on))
 have q3:=r3'.keep ((Keeps.refl _ _ _).set (p:=⟨N+1+1,4,none⟩) (.inl (by simp)) (.slice (some ⟨g3,0,none⟩) on on))
 have z3:(w3.setCell ⟨N+1+1,4,none⟩ (.slice (some ⟨g3,0,none⟩) on on)).heap.size=w3.heap.size:=by simp [World.setCell]
 have t3:N<w3.heap.size:=by omega
 have m1:=m1.set ⟨N+1+1,4,none⟩ (.slice (some ⟨g3,0,none⟩) on on)
 have m2:=m2.set ⟨N+1+1,4,none⟩ (.slice (some ⟨g3,0,none⟩) on on)
 have m3:=m3.set ⟨N+1+1,4,none⟩ (.slice (some ⟨g3,0,none⟩) on on)
 clear S5 r3' q1' q2'
 go_wp2_with fail
 generalize (w3.setCell ⟨N+1+1,4,none⟩ (.slice (some ⟨g3,0,none⟩) on on))=W3 at S6 q1 q2 q3 z3 m1 m2 m3 ⊢
 clear x0 x1 x2 x3 x4 x5 y0 y1 y2 y3 y4 y5 f1
 refine (toInt64S_any _ _ _ ys W3 A B (by have:=S6.bel.size;omega) (hY.below (S6.bel.mono hB)) h4).mono ?_
 rintro e w4 ⟨g4,hg4,rfl,o4,b4⟩
 obtain ⟨_,_,e1,r4⟩:=RowsAt.of_owns (fit:=I64) (d:=0) ic1 o4 hY.1 hY.2.2.2.1
 cases e1
 have r4':=r4.up (A':=N+3) (B':=w4.heap.size) (by have:=S6.lt;omega) (Nat.le_refl _)
 have q1':=(q1.below (by rw [<-z3];exact b4)).up (A':=N+3) (B':=w4.heap.size) (Nat.le_refl _) (by rw [<-z3];exact b4.size)
 have q2':=(q2.below (by rw [<-z3];exact b4)).up (A':=N+3) (B':=w4.heap.size) (Nat.le_refl _) (by rw [<-z3];exact b4.size)
 have q3':=(q3.below (by rw [<-z3];exact b4)).up (A':=N+3) (B':=w4.heap.size) (Nat.le_refl _) (by rw [<-z3];exact b4.size)
 have MM:Hid (RoomL w4 N (some ⟨g1,0,none⟩) kn∧RoomL w4 N (some ⟨g2,0,none⟩) vn∧RoomL w4 N (some ⟨g3,0,none⟩) on∧RoomL w4 N (some ⟨g4,0,none⟩) yn):=⟨m1.below b4,m2.below b4,m3.below b4,(room_of_own o4).lower (lo':=N) (by have:=S6.lt;omega)⟩
 clear m1 m2 m3
 have S7:=S6.below b4 hN
 clear S6 b4 o4 r4 hY q1 q2 q3 z3 l3 t3
 have l4:=S7.lt
 have S8:=S7.set hN 5 (.slice (some ⟨g4,0,none⟩) yn yn)
 obtain ⟨y0,y1,y2,y3,y4,y5⟩:=box6 S7.out
 obtain ⟨v0,v1,v2,v3,v4,v5⟩:=box6 S8.out
 obtain ⟨u0,u1,u2,u3,u4,u5⟩:=box6 S8.res
 have f1:=thawT S7.out
 have f2:=thawT S8.res
 have l5:N+1<w4.heap.size:=by omega
 have K:Keeps (N+3) w4.heap.size w4 (put6T (w4.setCell ⟨N+1+1,5,none⟩ (.slice (some ⟨g4,0,none⟩) yn yn)) (N+1) (.bool lf) (.int .i64 pg) (.slice (some ⟨g1,0,none⟩) kn kn) (.slice (some ⟨g2,0,none⟩) vn vn) (.slice (some ⟨g3,0,none⟩) on on) (.slice (some ⟨g4,0,none⟩) yn yn)):=by
  unfold put6T
  iterate 7 refine Keeps.set ?_ (.inl (by simp)) _
  exact Keeps.refl _ _ _
 have hX:=put6T_box S8.res (.bool lf) (.int .i64 pg) (.slice (some ⟨g1,0,none⟩) kn kn) (.slice (some ⟨g2,0,none⟩) vn vn) (.slice (some ⟨g3,0,none⟩) on on) (.slice (some ⟨g4,0,none⟩) yn yn)
 have hFr:=put6T_fr (w4.setCell ⟨N+1+1,5,none⟩ (.slice (some ⟨g4,0,none⟩) yn yn)) (N+1) (.bool lf) (.int .i64 pg) (.slice (some ⟨g1,0,none⟩) kn kn) (.slice (some ⟨g2,0,none⟩) vn vn) (.slice (some ⟨g3,0,none⟩) on on) (.slice (some ⟨g4,0,none⟩) yn yn)
 have hbl:=S8.bel.trans (hFr.below (B:=w.heap.size) (S8.bel.size) (fun g e=>by omega))
 have hsz:(put6T (w4.setCell ⟨N+1+1,5,none⟩ (.slice (some ⟨g4,0,none⟩) yn yn)) (N+1) (.bool lf) (.int .i64 pg) (.slice (some ⟨g1,0,none⟩) kn kn) (.slice (some ⟨g2,0,none⟩) vn vn) (.slice (some ⟨g3,0,none⟩) on on) (.slice (some ⟨g4,0,none⟩) yn yn)).heap.size=w4.heap.size:=by simp [put6T,World.setCell]
 clear S7 S8 hFr
 go_wp2
 show bodyPost _ _ _ _ _ (put6T (w4.setCell ⟨N+1+1,5,none⟩ (.slice (some ⟨g4,0,none⟩) yn yn)) (N+1) (.bool lf) (.int .i64 pg) (.slice (some ⟨g1,0,none⟩) kn kn) (.slice (some ⟨g2,0,none⟩) vn vn) (.slice (some ⟨g3,0,none⟩) on on) (.slice (some ⟨g4,0,none⟩) yn yn))
 obtain ⟨p0,p1,p2,p3,p4,p5⟩:=box6 hX
 refine bodyPost_ret (v:=.agg #[.bool lf,.int .i64 pg,.slice (some ⟨g1,0,none⟩) kn kn,.slice (some ⟨g2,0,none⟩) vn vn,.slice (some ⟨g3,0,none⟩) on on,.slice (some ⟨g4,0,none⟩) yn yn]) (by simp [results,Tryz.results37,go_sem,p0,p1,p2,p3,p4,p5]) rfl ⟨g1,g2,g3,g4,rfl,?_,?_,?_,?_,hbl,by rw [hN];exact ⟨(MM.out.1.set _ _).put6 _ _ _ _ _ _ _,(MM.out.2.1.set _ _).put6 _ _ _ _ _ _ _,(MM.out.2.2.1.set _ _).put6 _ _ _ _ _ _ _,(MM.out.2.2.2.set _ _).put6 _ _ _ _ _ _ _⟩⟩
 ·rw [hsz];exact (q1'.keep K).up (by omega) (Nat.le_refl _)
 ·rw [hsz];exact (q2'.keep K).up (by omega) (Nat.le_refl _)
 ·rw [hsz];exact (q3'.keep K).up (by omega) (Nat.le_refl _)
 ·rw [hsz];exact (r4'.keep K).up (by omega) (Nat.le_refl _)
structure GrAt (w:World) (G:Nat) (a:Option Addr) (n c:Nat) (nx:Nat) (met:Int->Bool):Prop where
 box:∃ cs:Array Value,w.heap[G]?=some (.cells cs 86)∧cs.size=1002∧cs[0]?=some (.slice a n c)∧cs[1]?=some (.int .i64 nx)∧∀ k:Nat,k<1000->cs[2+k]?=some (.bool (met k))
theorem GrAt.lt {w:World} {G:Nat} {a:Option Addr} {n c:Nat} {nx:Nat} {met:Int->Bool} (h:GrAt w G a n c nx met):G<w.heap.size:=by
 obtain ⟨cs,h,_⟩:=h.box
 exact (Array.getElem?_eq_some_iff.1 h).1
theorem GrAt.keep {w w':World} {G:Nat} {a:Option Addr} {n c:Nat} {nx:Nat} {met:Int->Bool} (h:GrAt w G a n c nx met) (hk:w'.heap[G]?=w.heap[G]?):GrAt w' G a n c nx met:=by
 obtain ⟨cs,h,h1⟩:=h.box
 exact ⟨cs,hk.trans h,h1⟩
theorem GrAt.c0 {w:World} {G:Nat} {a:Option Addr} {n c:Nat} {nx:Nat} {met:Int->Bool} (h:GrAt w G a n c nx met):w.cell? ⟨G,0,none⟩=some (.slice a n c):=by
 obtain ⟨cs,h,h0,h1,h2,h3⟩:=h.box
 simp [World.cell?,h,h1]
theorem GrAt.c1 {w:World} {G:Nat} {a:Option Addr} {n c:Nat} {nx:Nat} {met:Int->Bool} (h:GrAt w G a n c nx met):w.cell? ⟨G,1,none⟩=some (.int .i64 nx):=by
 obtain ⟨cs,h,h0,h1,h2,h3⟩:=h.box
 simp [World.cell?,h,h2]
theorem GrAt.ck {w:World} {G:Nat} {a:Option Addr} {n c:Nat} {nx:Nat} {met:Int->Bool} (h:GrAt w G a n c nx met) {k:Nat} (hk:k<1000):w.cell? ⟨G,2+k,none⟩=some (.bool (met k)):=by
 obtain ⟨cs,h,h0,h1,h2,h3⟩:=h.box
 simp [World.cell?,h,h3 k hk]
theorem GrAt.thaw {w:World} {G:Nat} {a:Option Addr} {n c:Nat} {nx:Nat} {met:Int->Bool} (h:GrAt w G a n c nx met):∀ o,w.frozen? ⟨G,o,none⟩=false:=by
 obtain ⟨cs,h,_⟩:=h.box
 exact thawT h
theorem GrAt.step {w:World} {G:Nat} {a:Option Addr} {n c:Nat} {nx:Nat} {met:Int->Bool} (h:GrAt w G a n c nx met) (m:Nat):GrAt (w.setCell ⟨G,1,none⟩ (.int .i64 m)) G a n c m met:=by
 obtain ⟨cs,h,h0,h1,h2,h3⟩:=h.box
 refine ⟨cs.setIfInBounds 1 (.int .i64 m),heap_setT h 1 _,by simpa using h0,?_,?_,fun k hk=>?_⟩
 ·rw [Array.getElem?_setIfInBounds_ne (by omega)];exact h1
 ·rw [Array.getElem?_setIfInBounds_self_of_lt (by omega)]
 ·rw [Array.getElem?_setIfInBounds_ne (by omega)];exact h3 k hk
theorem GrAt.mark {w:World} {G:Nat} {a:Option Addr} {n c:Nat} {nx:Nat} {met:Int->Bool} (h:GrAt w G a n c nx met) {x:Nat} (hx:x<1000):GrAt (w.setCell ⟨G,2+x,none⟩ (.bool true)) G a n c nx (fun y=>met y || y == (x:Int)):=by
 obtain ⟨cs,h,h0,h1,h2,h3⟩:=h.box
 refine ⟨cs.setIfInBounds (2+x) (.bool true),heap_setT h (2+x) _,by simpa using h0,?_,?_,fun k hk=>?_⟩
 ·rw [Array.getElem?_setIfInBounds_ne (by omega)];exact h1
 ·rw [Array.getElem?_setIfInBounds_ne (by omega)];exact h2
 ·by_cases hkx:x=k
  ·subst hkx
   rw [Array.getElem?_setIfInBounds_self_of_lt (by omega)]
   simp
  ·rw [Array.getElem?_setIfInBounds_ne (by omega),h3 k hk]
   have:((k:Int) == (x:Int))=false:=by simp;omega
   simp [this]
theorem newPages_any (w:World):Calls Tryz.prog 69 #[] w fun e w'=>e=.returned (.agg #[.int .i64 2,.int .i64 999])∧Below w.heap.size w w':=by
 go_enter Tryz.func69,Tryz.ntmps69
 go_wp2
 exact bodyPost_ret (v:=.agg #[.int .i64 2,.int .i64 999]) (by simp [results,Tryz.results69,go_sem]) rfl ⟨rfl,(Below.refl _ _).alloc (Nat.le_refl _) _⟩
theorem hasT_any (x:Int) (w:World):Calls Tryz.prog 70 #[.agg #[.int .i64 2,.int .i64 999],.int .i64 x] w fun e w'=>e=.returned (.bool (pgB x))∧Below w.heap.size w w':=by
 have hb:=(Below.refl w.heap.size w).alloc (Nat.le_refl _) (.cells #[.int .i64 2,.int .i64 999] 117)
 by_cases t1:2<=x
 ·by_cases t2:x<=999
  ·have HE:Hid (pgB x=true):=by show _=_;simp [pgB];omega
   go_enter Tryz.func70,Tryz.ntmps70
   go_wp2
   go_ret
   exact ⟨by rw [HE.out];rfl,hb⟩
  ·have HE:Hid (pgB x=false):=by show _=_;simp [pgB];omega
   go_enter Tryz.func70,Tryz.ntmps70
   go_wp2
   go_ret
   exact ⟨by rw [HE.out];rfl,hb⟩
 ·have HE:Hid (pgB x=false):=by show _=_;simp [pgB];omega
  go_enter Tryz.func70,Tryz.ntmps70
  go_wp2
  go_ret
  exact ⟨by rw [HE.out];rfl,hb⟩
def MeetAns (w:World) (G:Nat) (a:Option Addr) (n c nx:Nat) (met:Int->Bool) (x:Int) (e:Ending) (w':World):Prop :=
 ∃ r,e=.returned (.bool r)∧(r=true->∃ m,meetB met x=some m∧GrAt w' G a n c nx m)∧(r=false->meetB met x=none)∧Fr (fun k=>k=G) w w'
theorem meet_any (w:World) (G:Nat) (a:Option Addr) (n c nx:Nat) (met:Int->Bool) (x:Int) (h:GrAt w G a n c nx met):Calls Tryz.prog 56 #[.pointer (some ⟨G,0,none⟩),.int .i64 x] w fun e w'=>MeetAns w G a n c nx met x e w':=by
 by_cases t0:x=0
 ·subst t0
  have HA:Hid (MeetAns w G a n c nx met 0 (.returned (.bool true)) w):=⟨true,rfl,fun _=>⟨met,by simp [meetB],h⟩,(fun h=>by cases h),Fr.refl _ _⟩
  clear h
  go_enter Tryz.func56,Tryz.ntmps56
  go_wp2
  go_ret
  exact HA.out
 ·have sx:(x == 0)=false:=by simpa using t0
  cases hp:pgB x
  ·have HN:Hid (meetB met x=none):=by show _=_;simp [meetB,t0,hp]
   have hh:=hasT_any x
   rw [hp] at hh
   have HHH:Hid _:=hh
   clear hh hp h t0
   go_enter Tryz.func56,Tryz.ntmps56
   go_wp2_with fail
   refine (newPages_any w).mono ?_
   rintro e w1 ⟨rfl,hb1⟩
   go_wp2_with fail
   refine (HHH.out w1).mono ?_
   rintro e w2 ⟨rfl,hb2⟩
   have hb:=hb1.trans (hb2.mono hb1.size)
   go_wp2_with fail
   go_ret
   exact ⟨false,rfl,(fun h=>by cases h),fun _=>HN.out,Fr.of_below hb⟩
  ·have hx2:2<=x∧x<=999:=by simpa [pgB] using hp
   have hh:=hasT_any x
   rw [hp] at hh
   have HHH:Hid _:=hh
   clear hh
   obtain ⟨xn,rfl⟩:∃ xn:Nat,x=(xn:Int):=⟨x.toNat,by omega⟩
   have hxn:xn<1000:=by omega
   have HG:Hid (GrAt w G a n c nx met):=h
   have hGl:=h.lt
   cases hm:met xn
   ·have HN:Hid (meetB met xn=some (fun y=>met y || y == (xn:Int))):=by show _=_;simp only [meetB,if_neg t0,hp,hm];rfl
    clear hp h t0
    go_enter Tryz.func56,Tryz.ntmps56
    go_wp2_with fail
    refine (newPages_any w).mono ?_
    rintro e w1 ⟨rfl,hb1⟩
    go_wp2_with fail
    refine (HHH.out w1).mono ?_
    rintro e w2 ⟨rfl,hb2⟩
    have hb:=hb1.trans (hb2.mono hb1.size)
    have h2:GrAt w2 G a n c nx met:=HG.out.keep (hb.block G hGl)
    have ck:=h2.ck hxn
    rw [hm] at ck
    have ff:=h2.thaw
    have hl2:=h2.lt
    have h3:=h2.mark hxn
    have hfr:=(Fr.of_below (S:=fun k=>k=G) hb).trans (fr_setT w2 G (2+xn) (.bool true))
    clear h2 hb1 hb2
    go_wp2_with fail
    go_ret
    exact ⟨true,rfl,fun _=>⟨_,HN.out,h3⟩,(fun h=>by cases h),hfr⟩
   ·have HN:Hid (meetB met xn=none):=by show _=_;simp [meetB,hp,hm];omega
    clear hp h t0
    go_enter Tryz.func56,Tryz.ntmps56
    go_wp2_with fail
    refine (newPages_any w).mono ?_
    rintro e w1 ⟨rfl,hb1⟩
    go_wp2_with fail
    refine (HHH.out w1).mono ?_
    rintro e w2 ⟨rfl,hb2⟩
    have hb:=hb1.trans (hb2.mono hb1.size)
    have h2:GrAt w2 G a n c nx met:=HG.out.keep (hb.block G hGl)
    have ck:=h2.ck hxn
    rw [hm] at ck
    have hl2:=h2.lt
    clear h2 hb1 hb2
    go_wp2_with fail
    go_ret
    exact ⟨false,rfl,(fun h=>by cases h),fun _=>HN.out,Fr.of_below hb⟩
theorem mayStand_any (k v:ByteArray) (o p:Int) (hv:v.size<=maxLen) (w:World):Calls Tryz.prog 71 #[.agg #[.string k,.string v,.int .i64 o],.int .i64 p] w fun e w'=>e=.returned (.bool (mayB p v o))∧Below w.heap.size w w':=by
 have hb:=(Below.refl w.heap.size w).alloc (Nat.le_refl _) (.cells #[.string k,.string v,.int .i64 o] 111)
 unfold maxLen at hv
 by_cases t1:v.size<=8
 ·have HE:Hid (mayB p v o=(o == 0)):=by show _=_;simp [mayB,t1]
  go_enter Tryz.func71,Tryz.ntmps71
  go_wp2
  go_ret
  exact ⟨by rw [HE.out];rfl,hb⟩
 ·by_cases t2:v.size<=400
  ·by_cases t3:p=0
   ·subst t3
    have HE:Hid (mayB 0 v o=true):=by show _=_;simp [mayB,t1,t2]
    go_enter Tryz.func71,Tryz.ntmps71
    go_wp2
    go_ret
    exact ⟨by rw [HE.out];rfl,hb⟩
   ·have s3:(p == 0)=false:=by simpa using t3
    have HE:Hid (mayB p v o=(o != 0)):=by show _=_;simp [mayB,t1,t2,t3]
    clear t3
    go_enter Tryz.func71,Tryz.ntmps71
    go_wp2
    go_ret
    exact ⟨by rw [HE.out];rfl,hb⟩
  ·have HE:Hid (mayB p v o=false):=by show _=_;simp [mayB,t1,t2]
   go_enter Tryz.func71,Tryz.ntmps71
   go_wp2
   go_ret
   exact ⟨by rw [HE.out];rfl,hb⟩
def GM (w:World) (P:Nat->Prop):T->Value->Prop
 | ⟨l,p,k,v,o,y⟩,u=>if l then ∃ (L:Nat) (a:Option Addr) (n c:Nat),u=.iface 119 (.pointer (some ⟨L,0,none⟩))∧P L∧w.heap[L]?=some (.cells #[.int .i64 p,.slice a n c] 121)∧w.ownsRow 0 111 3 (.slice a n c) n (rowsOf slCells (k.zip (v.zip o)))∧(∀ g,(Value.slice a n c).ownBlock=some g->P g∧g≠L)∧n=k.length
  else ∃ (L:Nat) (a:Option Addr) (n c:Nat) (ul:List Value) (Q:Nat->Nat->Prop),u=.iface 94 (.pointer (some ⟨L,0,none⟩))∧P L∧w.heap[L]?=some (.cells #[.int .i64 p,.slice a n c] 100)∧w.ownsRow 0 54 1 (.slice a n c) n ul∧(∀ g,(Value.slice a n c).ownBlock=some g->P g∧g≠L)∧n=y.length∧(∀ i j b,Q i b->Q j b->i=j)∧(∀ i b,Q i b->P b∧b≠L∧(Value.slice a n c).ownBlock≠some b)∧∀ i,∀ t ∈ y,y[i]?=some t->GM w (Q i) t (ul.getD i .nilIface)
structure GML (w:World) (P:Nat->Prop) (t:T) (L:Nat) (a:Option Addr) (n c:Nat):Prop where
 at':P L
 box:w.heap[L]?=some (.cells #[.int .i64 t.page,.slice a n c] 121)
 row:w.ownsRow 0 111 3 (.slice a n c) n (rowsOf slCells (t.keys.zip (t.vals.zip t.over)))
 blk:∀ g,(Value.slice a n c).ownBlock=some g->P g∧g≠L
 len:n=t.keys.length
structure GMI (w:World) (P:Nat->Prop) (t:T) (L:Nat) (a:Option Addr) (n c:Nat) (ul:List Value) (Q:Nat->Nat->Prop):Prop where
 at':P L
 box:w.heap[L]?=some (.cells #[.int .i64 t.page,.slice a n c] 100)
 row:w.ownsRow 0 54 1 (.slice a n c) n ul
 blk:∀ g,(Value.slice a n c).ownBlock=some g->P g∧g≠L
 len:n=t.kids.length
 dis:∀ i j b,Q i b->Q j b->i=j
 sub:∀ i b,Q i b->P b∧b≠L∧(Value.slice a n c).ownBlock≠some b
 kid:∀ i,∀ k ∈ t.kids,t.kids[i]?=some k->GM w (Q i) k (ul.getD i .nilIface)
theorem GM.leaf {w:World} {P:Nat->Prop} {t:T} {u:Value} (h:GM w P t u) (hl:t.leaf=true):∃ L a n c,u=.iface 119 (.pointer (some ⟨L,0,none⟩))∧GML w P t L a n c:=by
 obtain ⟨l,p,k,v,o,y⟩:=t
 simp only at hl
 rw [GM.eq_def] at h
 simp only [hl,if_true] at h
 obtain ⟨L,a,n,c,e,h1,h2,h3,h4,h5⟩:=h
 exact ⟨L,a,n,c,e,h1,h2,h3,h4,h5⟩
theorem GM.inner {w:World} {P:Nat->Prop} {t:T} {u:Value} (h:GM w P t u) (hl:t.leaf=false):∃ L a n c ul Q,u=.iface 94 (.pointer (some ⟨L,0,none⟩))∧GMI w P t L a n c ul Q:=by
 obtain ⟨l,p,k,v,o,y⟩:=t
 simp only at hl
 rw [GM.eq_def] at h
 simp only [hl,Bool.false_eq_true,if_false] at h
 obtain ⟨L,a,n,c,ul,Q,e,h1,h2,h3,h4,h5,h6,h7,h8⟩:=h
 exact ⟨L,a,n,c,ul,Q,e,h1,h2,h3,h4,h5,h6,h7,h8⟩
theorem GML.is {w:World} {P:Nat->Prop} {t:T} {L:Nat} {a:Option Addr} {n c:Nat} (h:GML w P t L a n c) (hl:t.leaf=true):GM w P t (.iface 119 (.pointer (some ⟨L,0,none⟩))):=by
 obtain ⟨l,p,k,v,o,y⟩:=t
 simp only at hl
 rw [GM.eq_def]
 simp only [hl,if_true]
 exact ⟨L,a,n,c,rfl,h.at',h.box,h.row,h.blk,h.len⟩
theorem GMI.is {w:World} {P:Nat->Prop} {t:T} {L:Nat} {a:Option Addr} {n c:Nat} {ul:List Value} {Q:Nat->Nat->Prop} (h:GMI w P t L a n c ul Q) (hl:t.leaf=false):GM w P t (.iface 94 (.pointer (some ⟨L,0,none⟩))):=by
 obtain ⟨l,p,k,v,o,y⟩:=t
 simp only at hl
 rw [GM.eq_def]
 simp only [hl,Bool.false_eq_true,if_false]
 exact ⟨L,a,n,c,ul,Q,rfl,h.at',h.box,h.row,h.blk,h.len,h.dis,h.sub,h.kid⟩
theorem owns_keepG {w w':World} {base e size:Nat} {v:Value} {n:Nat} {xs:List Value} (h:w.ownsRow base e size v n xs) (hp:∀ g,v.ownBlock=some g->w'.heap[g]?=w.heap[g]?):w'.ownsRow base e size v n xs:=by
 refine ⟨h.1,?_⟩
 rcases h.2 with h | ⟨g,cap,cur,e1,h1,h2,h3⟩
 ·exact .inl h
 ·exact .inr ⟨g,cap,cur,e1,h1,(hp g (by rw [e1];rfl)).trans h2,h3⟩
theorem GM.keep {w w':World}:∀ (t:T) (P Q:Nat->Prop) (u:Value),(∀ b,P b->w'.heap[b]?=w.heap[b]?)->(∀ b,P b->Q b)->GM w P t u->GM w' Q t u:=by
 intro t
 induction t using T.ind with
 | h t ih =>
  intro P R u hp hQ h
  cases hl:t.leaf
  ·obtain ⟨L,a,n,c,ul,Q,rfl,q⟩:=h.inner hl
   exact GMI.is (Q:=Q) ⟨hQ L q.at',(hp L q.at').trans q.box,owns_keepG q.row (fun g hg=>hp g (q.blk g hg).1),fun g hg=>⟨hQ g (q.blk g hg).1,(q.blk g hg).2⟩,q.len,q.dis,fun i b hb=>⟨hQ b (q.sub i b hb).1,(q.sub i b hb).2⟩,fun i k hm hi=>ih k hm (Q i) (Q i) _ (fun b hb=>hp b (q.sub i b hb).1) (fun _ hb=>hb) (q.kid i k hm hi)⟩ hl
  ·obtain ⟨L,a,n,c,rfl,q⟩:=h.leaf hl
   exact GML.is ⟨hQ L q.at',(hp L q.at').trans q.box,owns_keepG q.row (fun g hg=>hp g (q.blk g hg).1),fun g hg=>⟨hQ g (q.blk g hg).1,(q.blk g hg).2⟩,q.len⟩ hl
theorem GML.see {w:World} {P:Nat->Prop} {t:T} {L:Nat} {a:Option Addr} {n c:Nat} (h:GML w P t L a n c):GLeaf w P t L a n c:=by
 have hrow:=h.row
 have hzl:(t.keys.zip (t.vals.zip t.over)).length=n:=by
  have:=hrow.1
  rw [rowsOf_length sl3] at this
  omega
 refine ⟨h.at',h.box,?_,h.len⟩
 rcases hrow.2 with ⟨e,e2⟩ | ⟨g,cap,cur,e,h1,h2,h3,h4,_⟩
 ·simp only [Value.slice.injEq] at e
  obtain ⟨_,e3,e4⟩:=e
  exact ⟨hzl,by omega,by omega,fun h=>by omega⟩
 ·simp only [Value.slice.injEq] at e
  obtain ⟨rfl,_,rfl⟩:=e
  exact ⟨hzl,h3,h4,fun hn=>⟨g,rfl,(h.blk g rfl).1,fun r hr=>hrow.cellAt r hr⟩⟩
theorem GM.see {w:World}:∀ (t:T) (P:Nat->Prop) (u:Value),GM w P t u->GIs w P t u:=by
 intro t
 induction t using T.ind with
 | h t ih =>
  intro P u h
  cases hl:t.leaf
  ·obtain ⟨L,a,n,c,ul,Q,rfl,q⟩:=h.inner hl
   have hrow:=q.row
   refine GInner.is (us:=fun i=>ul.getD i .nilIface) ⟨q.at',q.box,?_,?_,fun i k hm hi=>GIs.keep (fun _ _=>rfl) (fun b hb=>(q.sub i b hb).1) k _ (ih k hm (Q i) _ (q.kid i k hm hi))⟩ hl
   ·rcases hrow.2 with ⟨e,e2⟩ | ⟨g,cap,cur,e,h1,h2,h3,h4,_⟩
    ·simp only [Value.slice.injEq] at e
     exact ⟨q.len,by omega,by omega⟩
    ·simp only [Value.slice.injEq] at e
     obtain ⟨_,_,rfl⟩:=e
     exact ⟨q.len,h3,h4⟩
   ·intro hn
    rcases hrow.2 with ⟨e,e2⟩ | ⟨g,cap,cur,e,h1,h2,h3,h4,_⟩
    ·omega
    ·simp only [Value.slice.injEq] at e
     obtain ⟨rfl,_,rfl⟩:=e
     refine ⟨g,rfl,(q.blk g rfl).1,fun i hi=>?_⟩
     rw [hrow.cellAt i (by omega)]
     have hul:=hrow.1
     simp [List.getD,show i<ul.length by omega]
  ·obtain ⟨L,a,n,c,rfl,q⟩:=h.leaf hl
   exact q.see.is hl
theorem GM.drew {w:World} {P:Nat->Prop} {t:T} {u:Value} (h:GM w P t u):GM w.drew P t u:=GM.keep (w:=w) (w':=w.drew) t P P u (fun _ _=>rfl) (fun _ h=>h) h
theorem GM.shape {w:World} {P:Nat->Prop} {t:T} {u:Value} (h:GM w P t u):∃ ty v,u=.iface ty v:=(GM.see t P u h).shape
theorem own_lowerD {w:World} {b b' e size:Nat} {v:Value} {n:Nat} {xs:List Value} (h:w.ownsRow b e size v n xs) (hb:b'<=b):w.ownsRow b' e size v n xs:=by
 refine ⟨h.1,?_⟩
 rcases h.2 with hn | ⟨g,cap,cur,e1,e2,e3⟩
 ·exact .inl hn
 ·exact .inr ⟨g,cap,cur,e1,Nat.le_trans hb e2,e3⟩
theorem grown_weakD {w w':World} {row:Option Nat} (h:w.grownBy w' none):w.grownBy w' row :=
 ⟨h.os,h.tape,h.output,h.size,fun k hk _=>h.block k hk (by simp)⟩
theorem run_append_ownD {P:Program} (w:World) (base:Nat) (t ty e:TypeId) (i:TypeInfo) (z:Value) (size bytes:Nat) (ht:P.underlying t=some (.slice e)) (hi:P.info? e=some i) (hz:i.zero=some z)
  (hsize:i.size=size) (hby:i.bytes=bytes) (hzs:z.cells.size=size) (hsz:0<size)
  (v:Value) (n:Nat) (xs:List Value) (hown:w.ownsRow base e size v n xs)
  (a:Addr) (m c:Nat) (news:List Value) (hl:news.length=m*size) (hnews:∀ j u,news[j]?=some u->w.cell? (a.add j)=some u) (h1:∀ u ∈ news,u.oneCell'=true)
  (h63:n+m<=maxLen) (hbytes:(n+m)*bytes<=140737488355328) (hbase:base<=w.heap.size) :
  ∃ v' w',(Builtin.append_ #[t,t] ty #[v,.slice (some a) m c]).run P w=.ok v' w'∧w'.ownsRow base e size v' (n+m) (xs++news)∧w.grownBy w' v.ownBlock ∧
   (v'.ownBlock=v.ownBlock∨∀ g,v'.ownBlock=some g->w.heap.size<=g):=by
 rcases hown.2 with ⟨rfl,rfl⟩ | ⟨g,cap,cur,rfl,hbg,hg,hnc,hcm,hcs,htake⟩
 ·have hx:xs=[]:=List.eq_nil_of_length_eq_zero (by simpa using hown.1)
  subst hx
  obtain ⟨v',w',hr,ho,hgr,_⟩:=run_append_own (P:=P) w w.heap.size t ty e i z size bytes ht hi hz hsize hby hzs hsz _ 0 [] (World.ownsRow_nil w _ e size) a m c news hl hnews h1 h63 hbytes (Nat.le_refl _)
  exact ⟨v',w',hr,own_lowerD ho hbase,hgr,.inr fun k hk=>(ho.lt k hk).1⟩
 ·by_cases hroom:n+m<=cap
  ·obtain ⟨v',w',hr,ho,hgr,_⟩:=run_append_own (P:=P) w base t ty e i z size bytes ht hi hz hsize hby hzs hsz _ n xs hown a m c news hl hnews h1 h63 hbytes hbase
   subst hsize
   have hfit:n*i.size+news.length<=cur.size:=by rw [hl,hcs,<-Nat.add_mul];exact Nat.mul_le_mul_right _ hroom
   have hr2:=run_append_room (P:=P) w t ty e i ht hi g n cap cur hg a m c news hl hnews h1 hroom hfit
   rw [hr] at hr2
   injection hr2 with e1 e2
   exact ⟨v',w',hr,ho,hgr,.inl (by rw [e1];rfl)⟩
  ·have holds:∀ j u,xs[j]?=some u->w.cell? ((⟨g,0,none⟩:Addr).add j)=some u:=hown.cells (g:=g) rfl
   obtain ⟨v',w',hr,ho,hgr⟩:=run_append_arg_grows (P:=P) w t ty e i z size bytes ht hi hz hsize hby hzs hsz ⟨g,0,none⟩ n cap xs hown.1 holds a m c news hl hnews (by omega) h63 hbytes
   exact ⟨v',w',hr,own_lowerD ho hbase,grown_weakD hgr,.inr fun k hk=>(ho.lt k hk).1⟩
theorem wpList_append_ownD {P:Program} (w:World) {ops:Array Oper} {rest:List Oper} {o:Oper} {a:Act} {Q:Exit->Act->World->Prop} (hgd:o.guard=none) (s x:Operand) (t:TypeId)
  (ho:o.op=.call { callee:=.builtin .append,args:=#[s,x],argTypes:=#[t,t] })
  (base:Nat) (e:TypeId) (i:TypeInfo) (z:Value) (size bytes:Nat) (ht:P.underlying t=some (.slice e)) (hi:P.info? e=some i) (hz:i.zero=some z)
  (hsize:i.size=size) (hby:i.bytes=bytes) (hzs:z.cells.size=size) (hsz:0<size)
  (v:Value) (n:Nat) (xs:List Value) (hs:a.eval s=v) (hown:w.ownsRow base e size v n xs)
  (ad:Addr) (m c:Nat) (news:List Value) (hx:a.eval x=.slice (some ad) m c) (hl:news.length=m*size) (hnews:∀ j u,news[j]?=some u->w.cell? (ad.add j)=some u) (h1:∀ u ∈ news,u.oneCell'=true)
  (h63:n+m<=maxLen) (hbytes:(n+m)*bytes<=140737488355328) (hbase:base<=w.heap.size)
  (h:∀ v' w',w'.ownsRow base e size v' (n+m) (xs++news)->w.grownBy w' v.ownBlock->(v'.ownBlock=v.ownBlock∨∀ g,v'.ownBlock=some g->w.heap.size<=g)->wpList P ops Q rest (a.put o.dst v') w'):wpList P ops Q (o::rest) a w:=by
 refine wpList_plain hgd fun _ hK=>?_
 obtain ⟨v',w',hr,h2,h3,h4⟩:=run_append_ownD (P:=P) w base t o.type e i z size bytes ht hi hz hsize hby hzs hsz v n xs hown ad m c news hl hnews h1 h63 hbytes hbase
 unfold Oper.wp execOp
 simp only [ho,resolve,invoke,builtin,Sem.run_bind,Sem.run_pure,Result.andThen_ok,List.map_toArray,List.map_cons,List.map_nil,hs,hx,hr]
 exact hK _ _ (h v' w' h2 h3 h4)
end Go.Proofs.YtbfggcekifaldaaGreat
