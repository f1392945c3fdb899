import Derived.Test.YtkhglgalbifcnaaGreatGAA
import Derived.Test.YtkhglgalbifcnaaGreatGAC
import Derived.Deep.QuietTactic
import Derived.BigQuiet
import Derived.Deep.RegionWith
import Derived.Deep.DeepCutAuto
namespace Go.Proofs.YtkhglgalbifcnaaGreat
set_option maxHeartbeats 4000000
open Go.RowKit
set_option linter.unusedVariables false
set_option linter.unusedSimpArgs false
set_option maxRecDepth 100000
def GotNodes (w:World) (g0:Nat) (xs:List Value) (ts:List TN) (k:Nat):Prop :=
 ∀ j,j<k->I64 (ts.getD j dT).page∧∃ ka kn kc va vn vc oa on oc ya yn yc,xs[j*6]?=some (.bool (ts.getD j dT).leaf)∧xs[j*6+1]?=some (.int .i64 (ts.getD j dT).page)∧xs[j*6+2]?=some (.slice ka kn kc)∧xs[j*6+3]?=some (.slice va vn vc)∧xs[j*6+4]?=some (.slice oa on oc)∧xs[j*6+5]?=some (.slice ya yn yc) ∧
  StrsAt w (g0+1) w.heap.size ka kn kc (ts.getD j dT).keys∧StrsAt w (g0+1) w.heap.size va vn vc (ts.getD j dT).vals∧IntsAt w (g0+1) w.heap.size oa on oc (ts.getD j dT).over∧IntsAt w (g0+1) w.heap.size ya yn yc (ts.getD j dT).kids ∧
  (RoomL w (g0+1) ka kn∧RoomL w (g0+1) va vn∧RoomL w (g0+1) oa on∧RoomL w (g0+1) ya yn)
theorem GotNodes.below {w w':World} {g0:Nat} {xs:List Value} {ts:List TN} {k:Nat} (h:GotNodes w g0 xs ts k) (hb:Below w.heap.size w w'):GotNodes w' g0 xs ts k:=by
 intro j hj
 obtain⟨h0,ka,kn,kc,va,vn,vc,oa,on,oc,ya,yn,yc,e0,e1,e2,e3,e4,e5,a1,a2,a3,a4,m1,m2,m3,m4⟩:=h j hj
 exact⟨h0,ka,kn,kc,va,vn,vc,oa,on,oc,ya,yn,yc,e0,e1,e2,e3,e4,e5,(a1.below hb).up (Nat.le_refl _) hb.size,(a2.below hb).up (Nat.le_refl _) hb.size,(a3.below hb).up (Nat.le_refl _) hb.size,(a4.below hb).up (Nat.le_refl _) hb.size,m1.below hb,m2.below hb,m3.below hb,m4.below hb⟩
theorem RoomL.putK {w:World} {lo:Nat} {a:Option Addr} {n:Nat} (h:RoomL w lo a n) (g k:Nat) (u0 u1 u2 u3 u4 u5:Value):RoomL ((((((w.setCell ⟨g,k*6,none⟩ u0).setCell ⟨g,k*6+1,none⟩ u1).setCell ⟨g,k*6+2,none⟩ u2).setCell ⟨g,k*6+3,none⟩ u3).setCell ⟨g,k*6+4,none⟩ u4).setCell ⟨g,k*6+5,none⟩ u5) lo a n:=(((((h.set _ u0).set _ u1).set _ u2).set _ u3).set _ u4).set _ u5
theorem set6_ne {xs:List Value} {v0 v1 v2 v3 v4 v5:Value} {k j:Nat} (h:j<k*6∨k*6+6<=j):((((((xs.set (k*6) v0).set (k*6+1) v1).set (k*6+2) v2).set (k*6+3) v3).set (k*6+4) v4).set (k*6+5) v5)[j]?=xs[j]?:=by
 rw[List.getElem?_set_ne (by omega),List.getElem?_set_ne (by omega),List.getElem?_set_ne (by omega),List.getElem?_set_ne (by omega),List.getElem?_set_ne (by omega),List.getElem?_set_ne (by omega)]
theorem set6_at {xs:List Value} {v0 v1 v2 v3 v4 v5:Value} {k:Nat} (h:k*6+6<=xs.length) :
  ((((((xs.set (k*6) v0).set (k*6+1) v1).set (k*6+2) v2).set (k*6+3) v3).set (k*6+4) v4).set (k*6+5) v5)[k*6]?=some v0 ∧
  ((((((xs.set (k*6) v0).set (k*6+1) v1).set (k*6+2) v2).set (k*6+3) v3).set (k*6+4) v4).set (k*6+5) v5)[k*6+1]?=some v1 ∧
  ((((((xs.set (k*6) v0).set (k*6+1) v1).set (k*6+2) v2).set (k*6+3) v3).set (k*6+4) v4).set (k*6+5) v5)[k*6+2]?=some v2 ∧
  ((((((xs.set (k*6) v0).set (k*6+1) v1).set (k*6+2) v2).set (k*6+3) v3).set (k*6+4) v4).set (k*6+5) v5)[k*6+3]?=some v3 ∧
  ((((((xs.set (k*6) v0).set (k*6+1) v1).set (k*6+2) v2).set (k*6+3) v3).set (k*6+4) v4).set (k*6+5) v5)[k*6+4]?=some v4 ∧
  ((((((xs.set (k*6) v0).set (k*6+1) v1).set (k*6+2) v2).set (k*6+3) v3).set (k*6+4) v4).set (k*6+5) v5)[k*6+5]?=some v5:=by
 refine⟨?_,?_,?_,?_,?_,?_⟩
 ·iterate 5 rw[List.getElem?_set_ne (by omega)]
  rw[List.getElem?_set_self (by omega)]
 ·iterate 4 rw[List.getElem?_set_ne (by omega)]
  rw[List.getElem?_set_self (by simp;omega)]
 ·iterate 3 rw[List.getElem?_set_ne (by omega)]
  rw[List.getElem?_set_self (by simp;omega)]
 ·iterate 2 rw[List.getElem?_set_ne (by omega)]
  rw[List.getElem?_set_self (by simp;omega)]
 ·rw[List.getElem?_set_ne (by omega)]
  rw[List.getElem?_set_self (by simp;omega)]
 ·rw[List.getElem?_set_self (by simp;omega)]
def put6K (w:World) (g k:Nat) (u0 u1 u2 u3 u4 u5:Value):World:=(((((w.setCell ⟨g,k*6,none⟩ u0).setCell ⟨g,k*6+1,none⟩ u1).setCell ⟨g,k*6+2,none⟩ u2).setCell ⟨g,k*6+3,none⟩ u3).setCell ⟨g,k*6+4,none⟩ u4).setCell ⟨g,k*6+5,none⟩ u5
theorem put6K_keeps (w:World) (g k B:Nat) (u0 u1 u2 u3 u4 u5:Value):Keeps (g+1) B w (put6K w g k u0 u1 u2 u3 u4 u5):=by
 unfold put6K
 iterate 6 refine Keeps.set ?_ (.inl (by simp)) _
 exact Keeps.refl _ _ _
theorem put6K_size (w:World) (g k:Nat) (u0 u1 u2 u3 u4 u5:Value):(put6K w g k u0 u1 u2 u3 u4 u5).heap.size=w.heap.size:=by simp[put6K,World.setCell]
theorem GotNodes.step {w:World} {g0:Nat} {xs:List Value} {ts:List TN} {k n:Nat} {t:TN} {ka va oa ya:Option Addr} {kn kc vn vc on oc yn yc:Nat} (h:GotNodes w g0 xs ts k) (hk:k<n) (hx:xs.length=n*6) (ht:t=ts.getD k dT) (hp:I64 t.page)
  (a1:StrsAt w (g0+1) w.heap.size ka kn kc t.keys) (a2:StrsAt w (g0+1) w.heap.size va vn vc t.vals) (a3:IntsAt w (g0+1) w.heap.size oa on oc t.over) (a4:IntsAt w (g0+1) w.heap.size ya yn yc t.kids) (m1:RoomL w (g0+1) ka kn) (m2:RoomL w (g0+1) va vn) (m3:RoomL w (g0+1) oa on) (m4:RoomL w (g0+1) ya yn) :
  GotNodes (put6K w g0 k (.bool t.leaf) (.int .i64 t.page) (.slice ka kn kc) (.slice va vn vc) (.slice oa on oc) (.slice ya yn yc)) g0 ((((((xs.set (k*6) (.bool t.leaf)).set (k*6+1) (.int .i64 t.page)).set (k*6+2) (.slice ka kn kc)).set (k*6+3) (.slice va vn vc)).set (k*6+4) (.slice oa on oc)).set (k*6+5) (.slice ya yn yc)) ts (k+1):=by
 have K:=put6K_keeps w g0 k w.heap.size (.bool t.leaf) (.int .i64 t.page) (.slice ka kn kc) (.slice va vn vc) (.slice oa on oc) (.slice ya yn yc)
 intro j hj
 rw[put6K_size]
 by_cases hjk:j=k
 ·subst hjk
  rw[<-ht]
  obtain⟨e0,e1,e2,e3,e4,e5⟩:=set6_at (xs:=xs) (v0:=.bool t.leaf) (v1:=.int .i64 t.page) (v2:=.slice ka kn kc) (v3:=.slice va vn vc) (v4:=.slice oa on oc) (v5:=.slice ya yn yc) (k:=j) (by omega)
  exact⟨hp,ka,kn,kc,va,vn,vc,oa,on,oc,ya,yn,yc,e0,e1,e2,e3,e4,e5,a1.keep K,a2.keep K,a3.keep K,a4.keep K,m1.putK _ _ _ _ _ _ _ _,m2.putK _ _ _ _ _ _ _ _,m3.putK _ _ _ _ _ _ _ _,m4.putK _ _ _ _ _ _ _ _⟩
 ·obtain⟨h0,ka,kn,kc,va,vn,vc,oa,on,oc,ya,yn,yc,e0,e1,e2,e3,e4,e5,a1,a2,a3,a4,m1,m2,m3,m4⟩:=h j (by omega)
  refine⟨h0,ka,kn,kc,va,vn,vc,oa,on,oc,ya,yn,yc,?_,?_,?_,?_,?_,?_,a1.keep K,a2.keep K,a3.keep K,a4.keep K,m1.putK _ _ _ _ _ _ _ _,m2.putK _ _ _ _ _ _ _ _,m3.putK _ _ _ _ _ _ _ _,m4.putK _ _ _ _ _ _ _ _⟩
  all_goals (rw[set6_ne (by omega)];assumption)
theorem nodes_of_got {w:World} {base e g0 n:Nat} {xs:List Value} {ts:List TN} (h:w.ownsRow base e 6 (.slice (some ⟨g0,0,none⟩) n n) n xs) (hl:ts.length=n) (hm:n<=maxLen) (hG:GotNodes w g0 xs ts n):NodesAt w g0 w.heap.size (some ⟨g0,0,none⟩) n n ts:=by
 have hb:=h.lt g0 rfl
 refine⟨hl,Nat.le_refl _,hm,fun hn=>⟨g0,0,rfl,⟨Nat.le_refl _,hb.2⟩,fun i hi=>?_⟩⟩
 obtain⟨h0,ka,kn,kc,va,vn,vc,oa,on,oc,ya,yn,yc,e0,e1,e2,e3,e4,e5,a1,a2,a3,a4,_⟩:=hG i hi
 refine⟨ka,kn,kc,va,vn,vc,oa,on,oc,ya,yn,yc,?_,?_,?_,?_,?_,?_,h0,a1.up (Nat.le_succ _) (Nat.le_refl _),a2.up (Nat.le_succ _) (Nat.le_refl _),a3.up (Nat.le_succ _) (Nat.le_refl _),a4.up (Nat.le_succ _) (Nat.le_refl _)⟩
 ·rw[Nat.zero_add,h.cellAt (i*6) (by omega),e0]
 ·rw[Nat.zero_add,h.cellAt (i*6+1) (by omega),e1]
 ·rw[Nat.zero_add,h.cellAt (i*6+2) (by omega),e2]
 ·rw[Nat.zero_add,h.cellAt (i*6+3) (by omega),e3]
 ·rw[Nat.zero_add,h.cellAt (i*6+4) (by omega),e4]
 ·rw[Nat.zero_add,h.cellAt (i*6+5) (by omega),e5]
def MarkT (w:World) (lo g n:Nat) (ts:List TN):Prop:=∃ xs,w.ownsRow lo 103 6 (.slice (some ⟨g,0,none⟩) n n) n xs∧ts.length=n∧∀ j,j<n->∃ ka kn kc va vn vc oa on oc ya yn yc,xs[j*6+2]?=some (.slice ka kn kc)∧xs[j*6+3]?=some (.slice va vn vc)∧xs[j*6+4]?=some (.slice oa on oc)∧xs[j*6+5]?=some (.slice ya yn yc) ∧
 (kn=(ts.getD j dT).keys.length∧vn=(ts.getD j dT).vals.length∧on=(ts.getD j dT).over.length∧yn=(ts.getD j dT).kids.length)∧(RoomL w (g+1) ka kn∧RoomL w (g+1) va vn∧RoomL w (g+1) oa on∧RoomL w (g+1) ya yn)
theorem mark_of_got {w:World} {lo g n:Nat} {xs:List Value} {ts:List TN} (h:w.ownsRow lo 103 6 (.slice (some ⟨g,0,none⟩) n n) n xs) (hl:ts.length=n) (hG:GotNodes w g xs ts n):MarkT w lo g n ts:=by
 refine⟨xs,h,hl,fun j hj=>?_⟩
 obtain⟨h0,ka,kn,kc,va,vn,vc,oa,on,oc,ya,yn,yc,e0,e1,e2,e3,e4,e5,a1,a2,a3,a4,m⟩:=hG j hj
 exact⟨ka,kn,kc,va,vn,vc,oa,on,oc,ya,yn,yc,e2,e3,e4,e5,⟨a1.1.symm,a2.1.symm,a3.1.symm,a4.1.symm⟩,m⟩
theorem MarkT.set {w:World} {lo g n:Nat} {ts:List TN} (h:MarkT w lo g n ts) (p:Addr) (u:Value) (hp:p.block≠g):MarkT (w.setCell p u) lo g n ts:=by
 obtain⟨xs,h1,h2,h3⟩:=h
 refine⟨xs,owns_set h1 (fun q hq=>by simp[Value.ownBlock] at hq;omega) u,h2,fun j hj=>?_⟩
 obtain⟨ka,kn,kc,va,vn,vc,oa,on,oc,ya,yn,yc,e2,e3,e4,e5,e6,m1,m2,m3,m4⟩:=h3 j hj
 exact⟨ka,kn,kc,va,vn,vc,oa,on,oc,ya,yn,yc,e2,e3,e4,e5,e6,m1.set p u,m2.set p u,m3.set p u,m4.set p u⟩
theorem MarkT.lower {w:World} {lo lo' g n:Nat} {ts:List TN} (h:MarkT w lo g n ts) (hl:lo'<=lo):MarkT w lo' g n ts:=by
 obtain⟨xs,h1,h2⟩:=h
 exact⟨xs,owns_base h1 hl,h2⟩
def SmallT (ts:List TN):Prop:=∀ j,j<ts.length->(ts.getD j dT).keys.length<=1048576∧(ts.getD j dT).vals.length<=1048576∧(ts.getD j dT).over.length<=1048576∧(ts.getD j dT).kids.length<=1048576
theorem toTNodeS_mark (a:Option Addr) (n c:Nat) (ts:List TN) (w:World) (A B:Nat) (hB:B<=w.heap.size) (h:NodesAt w A B a n c ts) (hn:n<=1048576) (hall:SmallT ts) :
  Calls Tryz.prog 23 #[.slice a n c] w fun e w'=>∃ g,w.heap.size<=g∧e=.returned (.slice (some ⟨g,0,none⟩) n n)∧NodesAt w' w.heap.size w'.heap.size (some ⟨g,0,none⟩) n n ts∧Below w.heap.size w w'∧MarkT w' w.heap.size g n ts:=by
 have HL:Hid (ts.length=n):=h.1
 have HA:Hid (SmallT ts):=hall
 clear hall
 obtain⟨i0,hi,hz0,hz1,hz2⟩:=info_parts info_TNodeT
 go_enter Tryz.func23,Tryz.ntmps23
 go_wp2_with (at_make;refine wpList_make_full _ rfl _ _ 27 rfl w.heap.size 103 i0 _ 6 Tryz.underlying27 hi hz0 hz1 .i64 .i64 n n n rfl rfl rfl rfl (by rw[hz2];omega) (by unfold maxLen;omega) (Nat.le_refl _) ?_;intro w1 hown hgr)
 have hb1:Below w.heap.size w w1:=(Below.refl _ _).grown hgr (Nat.le_refl _) (by simp)
 go_loopw [4] (fun i wr=>∃ k:Nat,k<=n∧i=.int .i64 k∧Below w.heap.size w wr∧∃ xs,wr.ownsRow w.heap.size 103 6 (.slice (some ⟨w.heap.size,0,none⟩) n n) n xs∧GotNodes wr w.heap.size xs ts k) (fun i _=>n - (intOf i).toNat)
 case atStart=>exact⟨0,Nat.zero_le _,rfl,hb1,_,hown,fun j hj=>absurd hj (Nat.not_lt_zero _)⟩
 case round =>
  clear hown hgr hb1
  obtain⟨k,hk,rfl,hbel,xs,hown,hgot⟩:=hrel
  by_cases hlt:k<n
  ·obtain⟨b,off,rfl,hb,ka,kn,kc,va,vn,vc,oa,on,oc,ya,yn,yc,hN⟩:=NodesAt.at (h.below (hbel.mono hB)) hlt
   have hsm:=HA.out k (by have:=HL.out;omega)
   obtain⟨t,ht⟩:∃ t,t=ts.getD k dT:=⟨_,rfl⟩
   rw[<-ht] at hN hsm
   have HF:Hid (t=ts.getD k dT):=ht
   clear ht h
   obtain⟨c0,c1,c2,c3,c4,c5,hpg,hK,hV,hO,hY⟩:=hN
   obtain⟨s1,s2,s3,s4⟩:=hsm
   rw[hK.1] at s1
   rw[hV.1] at s2
   rw[hO.1] at s3
   rw[hY.1] at s4
   have hs:=hbel.size
   have hlt0:=(hown.lt w.heap.size rfl).2
   go_wp2_with fail
   refine (toTNode_any t.leaf t.page t.keys t.vals t.over t.kids ka kn kc va vn vc oa on oc ya yn yc wr A B (by omega) hK hV hO hY s1 s2 s3 s4).mono ?_
   rintro e w2 ⟨g1,g2,g3,g4,rfl,q1,q2,q3,q4,hb2,m1,m2,m3,m4⟩
   have hown2:=owns_below hown hb2
   have hgot2:=hgot.below hb2
   have hbel2:=hbel.trans (hb2.mono hs)
   have hxl:=hown2.1
   have hst:=GotNodes.step hgot2 hlt hxl HF.out hpg (q1.up (by omega) (Nat.le_refl _)) (q2.up (by omega) (Nat.le_refl _)) (q3.up (by omega) (Nat.le_refl _)) (q4.up (by omega) (Nat.le_refl _)) (m1.lower (by omega)) (m2.lower (by omega)) (m3.lower (by omega)) (m4.lower (by omega))
   have R:=(((((hown2.stored (k*6) (.bool t.leaf)).1.stored (k*6+1) (.int .i64 t.page)).1.stored (k*6+2) (.slice (some ⟨g1,0,none⟩) kn kn)).1.stored (k*6+3) (.slice (some ⟨g2,0,none⟩) vn vn)).1.stored (k*6+4) (.slice (some ⟨g3,0,none⟩) on on)).1.stored (k*6+5) (.slice (some ⟨g4,0,none⟩) yn yn)
   have hbel3:=(((((hbel2.setCell (p:=⟨w.heap.size,k*6,none⟩) (Nat.le_refl _) (.bool t.leaf)).setCell (p:=⟨w.heap.size,k*6+1,none⟩) (Nat.le_refl _) (.int .i64 t.page)).setCell (p:=⟨w.heap.size,k*6+2,none⟩) (Nat.le_refl _) (.slice (some ⟨g1,0,none⟩) kn kn)).setCell (p:=⟨w.heap.size,k*6+3,none⟩) (Nat.le_refl _) (.slice (some ⟨g2,0,none⟩) vn vn)).setCell (p:=⟨w.heap.size,k*6+4,none⟩) (Nat.le_refl _) (.slice (some ⟨g3,0,none⟩) on on)).setCell (p:=⟨w.heap.size,k*6+5,none⟩) (Nat.le_refl _) (.slice (some ⟨g4,0,none⟩) yn yn)
   have hf0:=hown2.frozenAt (k*6)
   have hf1:=hown2.frozenAt (k*6+1)
   have hf2:=hown2.frozenAt (k*6+2)
   have hf3:=hown2.frozenAt (k*6+3)
   have hf4:=hown2.frozenAt (k*6+4)
   have hf5:=hown2.frozenAt (k*6+5)
   obtain⟨u0,hu0⟩:∃ u,w2.cell? ⟨w.heap.size,k*6,none⟩=some u:=⟨xs[k*6]'(by omega),by rw[hown2.cellAt (k*6) (by omega)];exact List.getElem?_eq_getElem _⟩
   obtain⟨u1,hu1⟩:∃ u,w2.cell? ⟨w.heap.size,k*6+1,none⟩=some u:=⟨xs[k*6+1]'(by omega),by rw[hown2.cellAt (k*6+1) (by omega)];exact List.getElem?_eq_getElem _⟩
   obtain⟨u2,hu2⟩:∃ u,w2.cell? ⟨w.heap.size,k*6+2,none⟩=some u:=⟨xs[k*6+2]'(by omega),by rw[hown2.cellAt (k*6+2) (by omega)];exact List.getElem?_eq_getElem _⟩
   obtain⟨u3,hu3⟩:∃ u,w2.cell? ⟨w.heap.size,k*6+3,none⟩=some u:=⟨xs[k*6+3]'(by omega),by rw[hown2.cellAt (k*6+3) (by omega)];exact List.getElem?_eq_getElem _⟩
   obtain⟨u4,hu4⟩:∃ u,w2.cell? ⟨w.heap.size,k*6+4,none⟩=some u:=⟨xs[k*6+4]'(by omega),by rw[hown2.cellAt (k*6+4) (by omega)];exact List.getElem?_eq_getElem _⟩
   obtain⟨u5,hu5⟩:∃ u,w2.cell? ⟨w.heap.size,k*6+5,none⟩=some u:=⟨xs[k*6+5]'(by omega),by rw[hown2.cellAt (k*6+5) (by omega)];exact List.getElem?_eq_getElem _⟩
   clear hown hown2 hgot hgot2 hbel hbel2 q1 q2 q3 q4 hb2 m1 m2 m3 m4
   go_wp2
   go_roundw
   case rel=>exact⟨k+1,by omega,by go_num,hbel3,_,R.1,hst⟩
   case measure=>simp[intOf];omega
  ·go_wp2
   go_ret
   exact⟨w.heap.size,Nat.le_refl _,rfl,nodes_of_got hown HL.out (by unfold maxLen;omega) (by rw[show n=k by omega];exact hgot),hbel,mark_of_got hown HL.out (by rw[show n=k by omega];exact hgot)⟩
theorem toTree_mark (a:Option Addr) (n c:Nat) (ts:List TN) (w:World) (A B:Nat) (hB:B<=w.heap.size) (h:NodesAt w A B a n c ts) (hn:n<=1048576) (hall:SmallT ts) :
  Calls Tryz.prog 6 #[.agg #[.slice a n c]] w fun e w'=>∃ g,e=.returned (.agg #[.slice (some ⟨g,0,none⟩) n n])∧NodesAt w' w.heap.size w'.heap.size (some ⟨g,0,none⟩) n n ts∧Below w.heap.size w w'∧MarkT w' w.heap.size g n ts:=by
 obtain⟨N,hN⟩:∃ N,w.heap.size=N:=⟨_,rfl⟩
 have a3:=alloc3 w (.cells #[.slice a n c] 24) (.cells #[.slice none 0 0] 29) (.cells #[.slice none 0 0] 29)
 have b3:Below w.heap.size w (((w.alloc (.cells #[.slice a n c] 24)).alloc (.cells #[.slice none 0 0] 29)).alloc (.cells #[.slice none 0 0] 29)):=(((Below.refl _ _).alloc (Nat.le_refl _) _).alloc (by simp) _).alloc (by simp;omega) _
 have z3:(((w.alloc (.cells #[.slice a n c] 24)).alloc (.cells #[.slice none 0 0] 29)).alloc (.cells #[.slice none 0 0] 29)).heap.size=w.heap.size+3:=by simp
 go_enter Tryz.func6,Tryz.ntmps6
 go_wp2_with fail
 generalize (((w.alloc (.cells #[.slice a n c] 24)).alloc (.cells #[.slice none 0 0] 29)).alloc (.cells #[.slice none 0 0] 29))=W0 at a3 b3 z3 ⊢
 refine (toTNodeS_mark _ _ _ ts W0 A B (by omega) (h.below (b3.mono hB)) hn hall).mono ?_
 rintro e w1 ⟨g,hg,rfl,q,hb,mk⟩
 have zz:=hb.size
 have MK:Hid (MarkT w1 N g n ts):=mk.lower (by omega)
 clear mk
 have b4:=b3.trans (hb.mono (by omega))
 rw[hN] at a3
 have e2:=(hb.block _ (by omega)).trans a3.2.1
 have e3:=(hb.block _ (by omega)).trans a3.2.2
 have f2:=thawT e2
 have f3:=thawT e3
 have s3:=heap_setT e3 0 (.slice (some ⟨g,0,none⟩) n n)
 have s2:=((fr_setT w1 (N+1+1) 0 (.slice (some ⟨g,0,none⟩) n n)).block (N+1) (by omega) (by omega)).trans e2
 have c2:w1.cell? ⟨N+1,0,none⟩=some (.slice none 0 0):=by simp[World.cell?,e2]
 have c3:w1.cell? ⟨N+1+1,0,none⟩=some (.slice none 0 0):=by simp[World.cell?,e3]
 have q2:NodesAt ((w1.setCell ⟨N+1+1,0,none⟩ (.slice (some ⟨g,0,none⟩) n n)).setCell ⟨N+1,0,none⟩ (.slice (some ⟨g,0,none⟩) n n)) N w1.heap.size (some ⟨g,0,none⟩) n n ts :=
  (q.keep (((Keeps.refl _ _ _).set (p:=⟨N+1+1,0,none⟩) (.inl (by show N+1+1<_;omega)) (.slice (some ⟨g,0,none⟩) n n)).set (p:=⟨N+1,0,none⟩) (.inl (by show N+1<_;omega)) (.slice (some ⟨g,0,none⟩) n n))).up (by omega) (Nat.le_refl _)
 have b5:=(b4.setCell (p:=⟨N+1+1,0,none⟩) (by show w.heap.size<=N+1+1;omega) (.slice (some ⟨g,0,none⟩) n n)).setCell (p:=⟨N+1,0,none⟩) (by show w.heap.size<=N+1;omega) (.slice (some ⟨g,0,none⟩) n n)
 have l1:N+1<w1.heap.size:=by omega
 have l2:N+1+1<w1.heap.size:=by omega
 have hx:((w1.setCell ⟨N+1+1,0,none⟩ (.slice (some ⟨g,0,none⟩) n n)).setCell ⟨N+1,0,none⟩ (.slice (some ⟨g,0,none⟩) n n)).cell? ⟨N+1,0,none⟩=some (.slice (some ⟨g,0,none⟩) n n):=by
  have:=heap_setT s2 0 (.slice (some ⟨g,0,none⟩) n n)
  simp[World.cell?,this]
 go_wp2
 refine bodyPost_ret (v:=.agg #[.slice (some ⟨g,0,none⟩) n n]) (by simp[results,Tryz.results6,go_sem,hx]) rfl ⟨g,rfl,?_,b5,by rw[hN];exact (MK.out.set _ _ (by show N+1+1≠g;omega)).set _ _ (by show N+1≠g;omega)⟩
 have:((w1.setCell ⟨N+1+1,0,none⟩ (.slice (some ⟨g,0,none⟩) n n)).setCell ⟨N+1,0,none⟩ (.slice (some ⟨g,0,none⟩) n n)).heap.size=w1.heap.size:=by simp[World.setCell]
 rw[this,hN]
 exact q2
theorem toTree_any (a:Option Addr) (n c:Nat) (ts:List TN) (w:World) (A B:Nat) (hB:B<=w.heap.size) (h:NodesAt w A B a n c ts) (hn:n<=1048576) (hall:SmallT ts) :
  Calls Tryz.prog 6 #[.agg #[.slice a n c]] w fun e w'=>∃ g,e=.returned (.agg #[.slice (some ⟨g,0,none⟩) n n])∧NodesAt w' w.heap.size w'.heap.size (some ⟨g,0,none⟩) n n ts∧Below w.heap.size w w' :=
 (toTree_mark a n c ts w A B hB h hn hall).mono fun e w' ⟨g,h1,h2,h3,_⟩=>⟨g,h1,h2,h3⟩
def sameTo {α:Type} (xs ys:List α) (d:α) (j:Nat):Prop:=∀ i,i<j->xs.getD i d=ys.getD i d
theorem sameTo.eq {α:Type} {xs ys:List α} {d:α} {n:Nat} (h:sameTo xs ys d n) (h1:xs.length=n) (h2:ys.length=n):xs=ys:=by
 apply List.ext_getElem (by omega)
 intro i hi hj
 have:=h i (by omega)
 simpa[List.getD,hi,hj] using this
theorem sameTo.succ {α:Type} {xs ys:List α} {d:α} {j:Nat} (h:sameTo xs ys d j) (e:xs.getD j d=ys.getD j d):sameTo xs ys d (j+1):=fun i hi=>by
 by_cases hij:i=j
 ·subst hij;exact e
 ·exact h i (by omega)
theorem listT_inj {a b:ByteArray} (h:a.toList=b.toList):a=b:=by
 have h1:=ByteArray.toList_eq a
 have h2:=ByteArray.toList_eq b
 rw[h1,h2] at h
 cases a;cases b
 simp at h ⊢
 exact h
theorem listT_ne {a b:ByteArray} (h:¬ a=b):(a.toList == b.toList)=false:=by
 simpa using fun e=>h (listT_inj e)
theorem drewB (w:World) (n:Nat):Below w.heap.size w (w.drewN n):=⟨rfl,rfl,rfl,Nat.le_refl _,fun _ _=>rfl⟩
theorem l3SameNode_any (x y:TN) (hov:x.over.length=x.vals.length) (ka:Option Addr) (kn kc:Nat) (va:Option Addr) (vn vc:Nat) (oa:Option Addr) (on oc:Nat) (ya:Option Addr) (yn yc:Nat) (ka2:Option Addr) (kn2 kc2:Nat) (va2:Option Addr) (vn2 vc2:Nat) (oa2:Option Addr) (on2 oc2:Nat) (ya2:Option Addr) (yn2 yc2:Nat) (w:World) (A B A2 B2:Nat) (hB:B<=w.heap.size) (hB2:B2<=w.heap.size)
  (hK:StrsAt w A B ka kn kc x.keys) (hV:StrsAt w A B va vn vc x.vals) (hO:IntsAt w A B oa on oc x.over) (hY:IntsAt w A B ya yn yc x.kids) (hK2:StrsAt w A2 B2 ka2 kn2 kc2 y.keys) (hV2:StrsAt w A2 B2 va2 vn2 vc2 y.vals) (hO2:IntsAt w A2 B2 oa2 on2 oc2 y.over) (hY2:IntsAt w A2 B2 ya2 yn2 yc2 y.kids) :
  Calls Tryz.prog 70 #[.agg #[.bool x.leaf,.int .i64 x.page,.slice ka kn kc,.slice va vn vc,.slice oa on oc,.slice ya yn yc],.agg #[.bool y.leaf,.int .i64 y.page,.slice ka2 kn2 kc2,.slice va2 vn2 vc2,.slice oa2 on2 oc2,.slice ya2 yn2 yc2]] w fun e w'=>∃ r,e=.returned (.bool r)∧(r=true ↔ x=y)∧Below w.heap.size w w':=by
 obtain⟨N,hN⟩:∃ N,w.heap.size=N:=⟨_,rfl⟩
 have HLEN:Hid (x.keys.length=kn∧x.vals.length=vn∧x.over.length=on∧x.kids.length=yn∧y.keys.length=kn2∧y.vals.length=vn2∧y.over.length=on2∧y.kids.length=yn2):=⟨hK.1,hV.1,hO.1,hY.1,hK2.1,hV2.1,hO2.1,hY2.1⟩
 have hovn:on=vn:=by have:=HLEN.out;omega
 subst hovn
 have b1:=Nat.le_trans hK.2.1 hK.2.2.1
 have b2:=Nat.le_trans hV.2.1 hV.2.2.1
 have b4:=Nat.le_trans hY.2.1 hY.2.2.1
 unfold maxLen at b1 b2 b4
 have HEX:Hid (x=y ↔ x.leaf=y.leaf∧x.page=y.page∧x.keys=y.keys∧x.vals=y.vals∧x.over=y.over∧x.kids=y.kids):=by
  show _ ↔ _
  constructor
  ·rintro rfl;exact⟨rfl,rfl,rfl,rfl,rfl,rfl⟩
  ·intro h;cases x;cases y;simp at h ⊢;exact h
 obtain⟨lf,hlf⟩:∃ q,q=x.leaf:=⟨_,rfl⟩
 obtain⟨lf2,hlf2⟩:∃ q,q=y.leaf:=⟨_,rfl⟩
 obtain⟨pg,hpg⟩:∃ q,q=x.page:=⟨_,rfl⟩
 obtain⟨pg2,hpg2⟩:∃ q,q=y.page:=⟨_,rfl⟩
 rw[<-hlf,<-hlf2,<-hpg,<-hpg2] at HEX ⊢
 clear hlf hlf2 hpg hpg2 hov
 have a2:=heap_alloc_new (w.alloc (.cells #[.bool lf,.int .i64 pg,.slice ka kn kc,.slice va on vc,.slice oa on oc,.slice ya yn yc] 103)) (.cells #[.bool lf2,.int .i64 pg2,.slice ka2 kn2 kc2,.slice va2 vn2 vc2,.slice oa2 on2 oc2,.slice ya2 yn2 yc2] 103)
 have a1:=heap_alloc_new w (.cells #[.bool lf,.int .i64 pg,.slice ka kn kc,.slice va on vc,.slice oa on oc,.slice ya yn yc] 103)
 have s1:(w.alloc (.cells #[.bool lf,.int .i64 pg,.slice ka kn kc,.slice va on vc,.slice oa on oc,.slice ya yn yc] 103)).heap.size=N+1:=by simp[hN]
 have kb:=(Below.refl (w.alloc (.cells #[.bool lf,.int .i64 pg,.slice ka kn kc,.slice va on vc,.slice oa on oc,.slice ya yn yc] 103)).heap.size _).alloc (Nat.le_refl _) (.cells #[.bool lf2,.int .i64 pg2,.slice ka2 kn2 kc2,.slice va2 vn2 vc2,.slice oa2 on2 oc2,.slice ya2 yn2 yc2] 103)
 have bb:Below w.heap.size w ((w.alloc (.cells #[.bool lf,.int .i64 pg,.slice ka kn kc,.slice va on vc,.slice oa on oc,.slice ya yn yc] 103)).alloc (.cells #[.bool lf2,.int .i64 pg2,.slice ka2 kn2 kc2,.slice va2 vn2 vc2,.slice oa2 on2 oc2,.slice ya2 yn2 yc2] 103)):=((Below.refl _ _).alloc (Nat.le_refl _) _).alloc (by simp) _
 rw[hN] at a1
 have a1':=(kb.block N (by omega)).trans a1
 have s2:((w.alloc (.cells #[.bool lf,.int .i64 pg,.slice ka kn kc,.slice va on vc,.slice oa on oc,.slice ya yn yc] 103)).alloc (.cells #[.bool lf2,.int .i64 pg2,.slice ka2 kn2 kc2,.slice va2 vn2 vc2,.slice oa2 on2 oc2,.slice ya2 yn2 yc2] 103)).heap.size=N+2:=by simp[hN]
 rw[s1] at a2
 have cK:=hK.below (bb.mono hB)
 have cV:=hV.below (bb.mono hB)
 have cO:=hO.below (bb.mono hB)
 have cY:=hY.below (bb.mono hB)
 have cK2:=hK2.below (bb.mono hB2)
 have cV2:=hV2.below (bb.mono hB2)
 have cO2:=hO2.below (bb.mono hB2)
 have cY2:=hY2.below (bb.mono hB2)
 clear a1 s1 kb hK hV hO hY hK2 hV2 hO2 hY2
 go_enter Tryz.func70,Tryz.ntmps70
 go_upto_region 1 with fail
 generalize ((w.alloc (.cells #[.bool lf,.int .i64 pg,.slice ka kn kc,.slice va on vc,.slice oa on oc,.slice ya yn yc] 103)).alloc (.cells #[.bool lf2,.int .i64 pg2,.slice ka2 kn2 kc2,.slice va2 vn2 vc2,.slice oa2 on2 oc2,.slice ya2 yn2 yc2] 103))=W0 at a1' a2 s2 bb cK cV cO cY cK2 cV2 cO2 cY2 ⊢
 obtain⟨x0,x1,x2,x3,x4,x5⟩:=box6 a1'
 obtain⟨y0,y1,y2,y3,y4,y5⟩:=box6 a2
 have l0:N<W0.heap.size:=by omega
 have l1:N+1<W0.heap.size:=by omega
 obtain⟨G,hG⟩:∃ G,G=(decide (lf=lf2) && decide (pg=pg2) && decide (kn=kn2) && decide (on=vn2) && decide (on=on2) && decide (yn=yn2)):=⟨_,rfl⟩
 have HG:Hid (G=(decide (lf=lf2) && decide (pg=pg2) && decide (kn=kn2) && decide (on=vn2) && decide (on=on2) && decide (yn=yn2))):=hG
 clear hG
 go_cut [55] (fun c wx=>c=.bool (!G)∧wx=W0)
 case first =>
  by_cases t1:lf=lf2
  rotate_left
  ·have hz:G=false:=by rw[HG.out];simp[t1]
   have sb:(lf != lf2)=true:=by cases lf<;>cases lf2<;>first | rfl | exact absurd rfl t1
   go_wp2_with fail
   go_meet
   exact⟨by rw[hz];rfl,rfl⟩
  subst t1
  have sb:(lf != lf)=false:=by simp
  by_cases t2:pg=pg2
  rotate_left
  ·have hz:G=false:=by rw[HG.out];simp[t2]
   have sp:(pg != pg2)=true:=by simpa using t2
   go_wp2_with fail
   go_meet
   exact⟨by rw[hz];rfl,rfl⟩
  subst t2
  have sp:(pg != pg)=false:=by simp
  by_cases t3:kn=kn2
  rotate_left
  ·have hz:G=false:=by rw[HG.out];simp[t3]
   have sk:((kn:Int) != (kn2:Int))=true:=by simp;omega
   go_wp2_with fail
   go_meet
   exact⟨by rw[hz];rfl,rfl⟩
  subst t3
  have sk:((kn:Int) != (kn:Int))=false:=by simp
  by_cases t4:on=vn2
  rotate_left
  ·have hz:G=false:=by rw[HG.out];simp[t4]
   have sv:((on:Int) != (vn2:Int))=true:=by simp;omega
   go_wp2_with fail
   go_meet
   exact⟨by rw[hz];rfl,rfl⟩
  subst t4
  have sv:((on:Int) != (on:Int))=false:=by simp
  by_cases t5:on=on2
  rotate_left
  ·have hz:G=false:=by rw[HG.out];simp[t5]
   have so:((on:Int) != (on2:Int))=true:=by simp;omega
   go_wp2_with fail
   go_meet
   exact⟨by rw[hz];rfl,rfl⟩
  subst t5
  have hz:G=decide (yn=yn2):=by rw[HG.out];simp
  go_wp2_with fail
  go_meet
  exact⟨by rw[hz];by_cases h:yn=yn2<;>simp[h];omega,rfl⟩
 case rest =>
  obtain⟨rfl,rfl⟩:=hcut
  by_cases tg:G=true
  rotate_left
  ·have sg:G=false:=by simpa using tg
   have hne:¬ x=y:=by
    rw[HEX.out]
    rintro ⟨h1,h2,h3,h4,h5,h6⟩
    have hl:=HLEN.out
    have:=HG.out
    rw[sg] at this
    rw[h3,h4,h5,h6] at hl
    simp[h1,h2] at this
    omega
   subst sg
   go_wp2_with fail
   go_ret
   exact⟨false,rfl,by simp[hne],bb⟩
  subst tg
  have hall:=HG.out
  simp only[Bool.true_eq,Bool.and_eq_true,decide_eq_true_eq] at hall
  obtain⟨⟨⟨⟨⟨rfl,rfl⟩,rfl⟩,rfl⟩,hoo⟩,rfl⟩:=hall
  subst hoo
  clear HG x0 x1 x2 x3 x4 x5 y0 y1 y2 y3 y4 y5
  have sk:((kn:Int) != (kn:Int))=false:=by simp
  go_wp2_with fail
  go_loopw [5] (fun i wr=>∃ j:Nat,j<=kn∧i=.int .i64 j∧Hid (sameTo x.keys y.keys ByteArray.empty j)∧Below wc.heap.size wc wr) (fun i _=>kn - (intOf i).toNat)
  case atStart=>exact⟨0,Nat.zero_le _,rfl,fun i hi=>by omega,Below.refl _ _⟩
  case round =>
   obtain⟨j,hj,rfl,HS,hbel⟩:=hrel
   have e1:=(hbel.block N (by omega)).trans a1'
   have e2:=(hbel.block (N+1) (by omega)).trans a2
   obtain⟨x0,x1,x2,x3,x4,x5⟩:=box6 e1
   obtain⟨y0,y1,y2,y3,y4,y5⟩:=box6 e2
   have m0:N<wr.heap.size:=by have:=hbel.size;omega
   have m1:N+1<wr.heap.size:=by have:=hbel.size;omega
   by_cases hlt:j<kn
   ·obtain⟨kb,koff,rfl,hkb,hfk,ek⟩:=StrsAt.at (cK.below (hbel.mono (by omega))) hlt
    obtain⟨kb2,koff2,rfl,hkb2,hfk2,ek2⟩:=StrsAt.at (cK2.below (hbel.mono (by omega))) hlt
    have hs:=hbel.size
    have u1:kb<wr.heap.size:=by omega
    have u2:kb2<wr.heap.size:=by omega
    have HSU:Hid (x.keys.getD j ByteArray.empty=y.keys.getD j ByteArray.empty->sameTo x.keys y.keys ByteArray.empty (j+1)):=fun e=>HS.out.succ e
    have HNE:Hid (¬ x.keys.getD j ByteArray.empty=y.keys.getD j ByteArray.empty->¬ x=y):=fun h e=>h (by rw[e])
    generalize x.keys.getD j ByteArray.empty=s1 at ek HSU HNE hfk
    generalize y.keys.getD j ByteArray.empty=s2 at ek2 HSU HNE hfk2
    by_cases te:s1=s2
    ·subst te
     have HS2:Hid _:=HSU.out rfl
     clear HSU HNE HS
     go_wp2_with fail
     go_quiet (fail)
     have hb2:=hbel.trans ((drewB wr nq).mono hbel.size)
     go_wp2_with fail
     go_roundw
     case rel=>exact⟨j+1,by omega,by go_num,HS2,hb2⟩
     case measure=>simp[intOf];omega
    ·have hne:=HNE.out te
     have sf:=listT_ne te
     clear HSU HNE HS
     go_wp2_with fail
     go_quiet (fail)
     go_wp2_with fail
     go_ret
     exact⟨false,rfl,by simp[hne],bb.trans ((hbel.trans ((drewB wr nq).mono hbel.size)).mono (by omega))⟩
   ·have HKE:Hid (x.keys=y.keys):=by
     have hl:=HLEN.out
     obtain rfl:j=kn:=by omega
     exact HS.out.eq hl.1 hl.2.2.2.2.1
    generalize wr=V at hbel e1 e2 x0 x1 x2 x3 x4 x5 y0 y1 y2 y3 y4 y5 m0 m1 ⊢
    go_wp2_with fail
    clear x0 x1 x2 x3 x4 x5 y0 y1 y2 y3 y4 y5 e1 e2 m0 m1 HS hlt hj
    go_loopw [6] (fun i wr=>∃ j:Nat,j<=on∧i=.int .i64 j∧Hid (sameTo x.vals y.vals ByteArray.empty j∧sameTo x.over y.over 0 j)∧Below wc.heap.size wc wr) (fun i _=>on - (intOf i).toNat)
    case atStart=>exact⟨0,Nat.zero_le _,rfl,⟨fun i hi=>by omega,fun i hi=>by omega⟩,hbel⟩
    case round =>
     clear hbel
     obtain⟨j,hj,rfl,HS,hbel⟩:=hrel
     have e1:=(hbel.block N (by omega)).trans a1'
     have e2:=(hbel.block (N+1) (by omega)).trans a2
     obtain⟨x0,x1,x2,x3,x4,x5⟩:=box6 e1
     obtain⟨y0,y1,y2,y3,y4,y5⟩:=box6 e2
     have m0:N<wr.heap.size:=by have:=hbel.size;omega
     have m1:N+1<wr.heap.size:=by have:=hbel.size;omega
     by_cases hlt:j<on
     ·obtain⟨kb,koff,rfl,hkb,hfk,ek⟩:=StrsAt.at (cV.below (hbel.mono (by omega))) hlt
      obtain⟨kb2,koff2,rfl,hkb2,hfk2,ek2⟩:=StrsAt.at (cV2.below (hbel.mono (by omega))) hlt
      obtain⟨ob,ooff,rfl,hob,hfo,eo⟩:=IntsAt.at (cO.below (hbel.mono (by omega))) hlt
      obtain⟨ob2,ooff2,rfl,hob2,hfo2,eo2⟩:=IntsAt.at (cO2.below (hbel.mono (by omega))) hlt
      have hs:=hbel.size
      have u1:kb<wr.heap.size:=by omega
      have u2:kb2<wr.heap.size:=by omega
      have u3:ob<wr.heap.size:=by omega
      have u4:ob2<wr.heap.size:=by omega
      have HSU:Hid (x.vals.getD j ByteArray.empty=y.vals.getD j ByteArray.empty->x.over.getD j 0=y.over.getD j 0->sameTo x.vals y.vals ByteArray.empty (j+1)∧sameTo x.over y.over 0 (j+1)):=fun e e'=>⟨HS.out.1.succ e,HS.out.2.succ e'⟩
      have HNE:Hid (¬ (x.vals.getD j ByteArray.empty=y.vals.getD j ByteArray.empty∧x.over.getD j 0=y.over.getD j 0)->¬ x=y):=fun h e=>h (by rw[e];exact⟨rfl,rfl⟩)
      generalize x.vals.getD j ByteArray.empty=s1 at ek HSU HNE hfk
      generalize y.vals.getD j ByteArray.empty=s2 at ek2 HSU HNE hfk2
      generalize x.over.getD j 0=o1 at eo HSU HNE hfo
      generalize y.over.getD j 0=o2 at eo2 HSU HNE hfo2
      by_cases te:s1=s2
      ·subst te
       by_cases tz:o1=o2
       ·subst tz
        have so:(o1 != o1)=false:=by simp
        have HS2:Hid _:=HSU.out rfl rfl
        clear HSU HNE HS
        go_wp2_with fail
        go_quiet (fail)
        have hb2:=hbel.trans ((drewB wr nq).mono hbel.size)
        go_wp2_with fail
        go_roundw
        case rel=>exact⟨j+1,by omega,by go_num,HS2,hb2⟩
        case measure=>simp[intOf];omega
       ·have hne:=HNE.out (fun h=>tz h.2)
        have so:(o1 != o2)=true:=by simpa using tz
        clear HSU HNE HS tz
        go_wp2_with fail
        go_quiet (fail)
        go_wp2_with fail
        go_ret
        exact⟨false,rfl,by simp[hne],bb.trans ((hbel.trans ((drewB wr nq).mono hbel.size)).mono (by omega))⟩
      ·have hne:=HNE.out (fun h=>te h.1)
       have sf:=listT_ne te
       clear HSU HNE HS
       go_wp2_with fail
       go_quiet (fail)
       go_wp2_with fail
       go_ret
       exact⟨false,rfl,by simp[hne],bb.trans ((hbel.trans ((drewB wr nq).mono hbel.size)).mono (by omega))⟩
     ·have HVE:Hid (x.vals=y.vals∧x.over=y.over):=by
       have hl:=HLEN.out
       obtain rfl:j=on:=by omega
       exact⟨HS.out.1.eq hl.2.1 hl.2.2.2.2.2.1,HS.out.2.eq hl.2.2.1 hl.2.2.2.2.2.2.1⟩
      generalize wr=V at hbel e1 e2 x0 x1 x2 x3 x4 x5 y0 y1 y2 y3 y4 y5 m0 m1 ⊢
      go_wp2_with fail
      clear x0 x1 x2 x3 x4 x5 y0 y1 y2 y3 y4 y5 e1 e2 m0 m1 HS hlt hj
      go_loopw [7] (fun i wr=>∃ j:Nat,j<=yn∧i=.int .i64 j∧Hid (sameTo x.kids y.kids 0 j)∧Below wc.heap.size wc wr) (fun i _=>yn - (intOf i).toNat)
      case atStart=>exact⟨0,Nat.zero_le _,rfl,fun i hi=>by omega,hbel⟩
      case round =>
       clear hbel
       obtain⟨j,hj,rfl,HS,hbel⟩:=hrel
       have e1:=(hbel.block N (by omega)).trans a1'
       have e2:=(hbel.block (N+1) (by omega)).trans a2
       obtain⟨x0,x1,x2,x3,x4,x5⟩:=box6 e1
       obtain⟨y0,y1,y2,y3,y4,y5⟩:=box6 e2
       have m0:N<wr.heap.size:=by have:=hbel.size;omega
       have m1:N+1<wr.heap.size:=by have:=hbel.size;omega
       by_cases hlt:j<yn
       ·obtain⟨ob,ooff,rfl,hob,hfo,eo⟩:=IntsAt.at (cY.below (hbel.mono (by omega))) hlt
        obtain⟨ob2,ooff2,rfl,hob2,hfo2,eo2⟩:=IntsAt.at (cY2.below (hbel.mono (by omega))) hlt
        have hs:=hbel.size
        have u3:ob<wr.heap.size:=by omega
        have u4:ob2<wr.heap.size:=by omega
        have HSU:Hid (x.kids.getD j 0=y.kids.getD j 0->sameTo x.kids y.kids 0 (j+1)):=fun e=>HS.out.succ e
        have HNE:Hid (¬ x.kids.getD j 0=y.kids.getD j 0->¬ x=y):=fun h e=>h (by rw[e])
        generalize x.kids.getD j 0=o1 at eo HSU HNE hfo
        generalize y.kids.getD j 0=o2 at eo2 HSU HNE hfo2
        by_cases tz:o1=o2
        ·subst tz
         have so:(o1 != o1)=false:=by simp
         have HS2:Hid _:=HSU.out rfl
         clear HSU HNE HS
         go_wp2_with fail
         go_quiet (fail)
         have hb2:=hbel.trans ((drewB wr nq).mono hbel.size)
         go_wp2_with fail
         go_roundw
         case rel=>exact⟨j+1,by omega,by go_num,HS2,hb2⟩
         case measure=>simp[intOf];omega
        ·have hne:=HNE.out tz
         have so:(o1 != o2)=true:=by simpa using tz
         clear HSU HNE HS tz
         go_wp2_with fail
         go_quiet (fail)
         go_wp2_with fail
         go_ret
         exact⟨false,rfl,by simp[hne],bb.trans ((hbel.trans ((drewB wr nq).mono hbel.size)).mono (by omega))⟩
       ·have hyes:x=y:=by
         have hl:=HLEN.out
         obtain rfl:j=yn:=by omega
         rw[HEX.out]
         exact⟨trivial,trivial,HKE.out,HVE.out.1,HVE.out.2,HS.out.eq hl.2.2.2.1 hl.2.2.2.2.2.2.2⟩
        have HYE:Hid (x=y):=hyes
        clear hyes HS
        go_wp2_with fail
        go_ret
        exact⟨true,rfl,by simp[HYE.out],bb.trans (hbel.mono (by omega))⟩
end Go.Proofs.YtkhglgalbifcnaaGreat
