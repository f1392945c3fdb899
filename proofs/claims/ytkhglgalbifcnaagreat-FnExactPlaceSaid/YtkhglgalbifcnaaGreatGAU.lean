import Derived.Test.YtkhglgalbifcnaaGreatGAA
import Derived.Test.YtkhglgalbifcnaaGreatGAP
import Derived.Test.YtkhglgalbifcnaaGreatGAH
import Derived.Test.YtkhglgalbifcnaaGreatTgh
import Derived.Shelf.Spec.SlicesInsertGrow
import Derived.Laws.CopyRow
import Derived.Sort.Walk0
import Derived.Laws.Cover1
import Derived.Deep.RegionWith
import Derived.Deep.DeepCutAuto
import Derived.Deep.QuietTactic
import Derived.BigQuiet
namespace Go.Proofs.YtkhglgalbifcnaaGreat
set_option maxHeartbeats 4000000
open Go.RowKit
set_option linter.unusedVariables false
set_option linter.unusedSimpArgs false
set_option maxRecDepth 100000
theorem less_iff (a b:ByteArray):lessB a b=true ↔ a.toList<b.toList:=by
 unfold lessB
 rw[bytesLess_eq,decide_eq_true_eq]
theorem less_trans {a b c:ByteArray} (h1:lessB a b=true) (h2:lessB b c=true):lessB a c=true:=by
 rw[less_iff] at h1 h2 ⊢
 exact List.lt_trans h1 h2
theorem asc_pair {l:List ByteArray} {n:Nat} (h:ascTo l n):∀ d i,i+d+1<n->lessB (l.getD i ByteArray.empty) (l.getD (i+d+1) ByteArray.empty)=true
 | 0,i,hi=>h i hi
 | d+1,i,hi=>less_trans (asc_pair h d i (by omega)) (h (i+d+1) (by omega))
theorem asc_lt {l:List ByteArray} {n i k:Nat} (h:ascTo l n) (hik:i<k) (hk:k<n):lessB (l.getD i ByteArray.empty) (l.getD k ByteArray.empty)=true:=by
 have:=asc_pair h (k - i - 1) i (by omega)
 rwa [show i+(k - i - 1)+1=k by omega] at this
def cmpT (x y:ByteArray):Int:=if lessB x y=true then -1 else if lessB y x=true then 1 else 0
def PosIs (zs:List (ByteArray × ByteArray × Int)) (key:ByteArray) (i:Nat):Prop:=i<=zs.length∧(∀ k,k<i->lessB (zs.getD k (ByteArray.empty,ByteArray.empty,0)).1 key=true)∧∀ k,i<=k->k<zs.length->¬ lessB (zs.getD k (ByteArray.empty,ByteArray.empty,0)).1 key=true
def SearchAns (zs:List (ByteArray × ByteArray × Int)) (key:ByteArray) (w:World) (e:Ending) (w':World):Prop :=
 ∃ (i:Nat) (b:Bool),e=.returned (.tuple #[.int .i64 i,.bool b])∧(b=true->i<zs.length∧(zs.getD i (ByteArray.empty,ByteArray.empty,0)).1=key)∧(b=false->∀ k,k<zs.length->(zs.getD k (ByteArray.empty,ByteArray.empty,0)).1≠key)∧PosIs zs key i∧Below w.heap.size w w'
def lookT (key:ByteArray) (zs:List (ByteArray × ByteArray × Int)):Option (ByteArray × ByteArray × Int):=zs.find? (fun s=>decide (s.1=key))
def SortT (zs:List (ByteArray × ByteArray × Int)):Prop:=zs.Pairwise (fun a b=>lessB a.1 b.1=true)
theorem sort_of_asc {zs:List (ByteArray × ByteArray × Int)} (h:ascB (zs.map (fun s=>s.1))=true):SortT zs:=by
 unfold SortT
 rw[List.pairwise_iff_getElem]
 intro i j hi hj hij
 have:=asc_lt (asc_to _ h) hij (by simpa using hj)
 simpa[List.getD,hi,hj] using this
def leB (a b:ByteArray):Bool:=Op.bytesLess a.toList b.toList || a.toList == b.toList
def TowardIs (t:T) (key:ByteArray) (m:Nat):Prop:=m<t.kids.length∧(m=0∨∃ k,t.kids[m]?=some k∧leB k.low key=true)∧∀ i k,m<i->t.kids[i]?=some k->¬ leB k.low key=true
def posT (key:ByteArray):List (ByteArray × ByteArray × Int)->Nat
 | []=>0
 | s::r=>if lessB s.1 key then posT key r+1 else 0
def thereT (key:ByteArray) (zs:List (ByteArray × ByteArray × Int)):Bool:=decide (posT key zs<zs.length∧(zs.getD (posT key zs) (ByteArray.empty,ByteArray.empty,0)).1=key)
def putZ (key val:ByteArray) (zs:List (ByteArray × ByteArray × Int)):List (ByteArray × ByteArray × Int):=zs.take (posT key zs)++(key,val,0)::zs.drop (if thereT key zs then posT key zs+1 else posT key zs)
def leafZ (zs:List (ByteArray × ByteArray × Int)):T:=⟨true,0,zs.map (fun s=>s.1),zs.map (fun s=>s.2.1),zs.map (fun s=>s.2.2),[]⟩
def towO (key:ByteArray):List T->Option Nat
 | []=>none
 | t::r=>match towO key r with
  | some m=>some (m+1)
  | none=>if leB t.low key then some 0 else none
def towN (key:ByteArray) (ys:List T):Nat:=(towO key ys).getD 0
def T.fore (t:T) (k:Nat):T:=⟨t.leaf,0,t.keys.take k,t.vals.take k,t.over.take k,t.kids.take k⟩
def T.rest (t:T) (k:Nat):T:=⟨t.leaf,0,t.keys.drop k,t.vals.drop k,t.over.drop k,t.kids.drop k⟩
def cutT (t:T):List T:=if t.size<=4 then [t] else [t.fore 3,t.rest 3]
def putT (key val:ByteArray):T->T
 | ⟨l,p,k,v,o,y⟩=>if l then leafZ (putZ key val (k.zip (v.zip o)))
  else ⟨false,0,[],[],[],y.take (towN key y)++cutT ((y.map (putT key val)).getD (towN key y) leafT)++y.drop (towN key y+1)⟩
def rootP (key val:ByteArray) (t:T):T:=if (putT key val t).size<=4 then putT key val t else ⟨false,0,[],[],[],cutT (putT key val t)⟩
def slotV:Option (ByteArray × ByteArray × Int)->Value
 | some s=>.agg #[.string s.1,.string s.2.1,.int .i64 s.2.2]
 | none=>.agg #[.string ByteArray.empty,.string ByteArray.empty,.int .i64 0]
def FindAns (s:Option (ByteArray × ByteArray × Int)) (w:World) (e:Ending) (w':World):Prop:=e=.returned (.tuple #[slotV s,.bool s.isSome])∧Below w.heap.size w w'
def put3G (w:World) (N:Nat) (u0 u1 u2:Value):World:=((w.setCell ⟨N,0,none⟩ u0).setCell ⟨N,1,none⟩ u1).setCell ⟨N,2,none⟩ u2
def FObs (base:Nat) (w:World) (key:ByteArray) (s:Option (ByteArray × ByteArray × Int)) (ty:TypeId) (v:Value):Prop :=
 (∀ w,(nilAhead 297 ty v "loop.example/s02098/impl.find").run Tryz.prog w=.ok (some false) w)∧∃ f r,(∀ w,(method 297 ty v "loop.example/s02098/impl.find").run Tryz.prog w=.ok (f,r) w)∧(∀ w,(callFunc f #[r,.string key]).run Tryz.prog w=.ok (.enter f #[r,.string key]) w)∧∀ w',Below base w w'->base<=w'.heap.size->Calls Tryz.prog f #[r,.string key] w' fun e w2=>FindAns s w' e w2
def PutAns (w:World) (P:Nat->Prop) (t:T) (u:Value) (e:Ending) (w':World):Prop:=e=.returned (.tuple #[])∧(∃ P':Nat->Prop,GM w' P' t u∧∀ b,P' b->(P b∨w.heap.size<=b)∧b<w'.heap.size)∧Fr P w w'
def put3at (w:World) (b o:Nat) (u0 u1 u2:Value):World:=((w.setCell ⟨b,o,none⟩ u0).setCell ⟨b,o+1,none⟩ u1).setCell ⟨b,o+2,none⟩ u2
structure MkW (lo hi:Nat) (w w':World):Prop where
 fr:Fr (fun k=>lo<=k∧k<hi) w w'
 room:∀ b o,b<w.heap.size->(∃ v,w.cell? ⟨b,o,none⟩=some v)->w.frozen? ⟨b,o,none⟩=false->(∃ v,w'.cell? ⟨b,o,none⟩=some v)∧w'.frozen? ⟨b,o,none⟩=false
theorem MkW.refl (lo hi:Nat) (w:World):MkW lo hi w w:=⟨Fr.refl _ _,fun b o _ h1 h2=>⟨h1,h2⟩⟩
theorem MkW.trans {lo hi:Nat} {a b c:World} (h:MkW lo hi a b) (k:MkW lo hi b c):MkW lo hi a c :=
 ⟨h.fr.trans k.fr,fun b o hb h1 h2=>by
  obtain⟨g1,g2⟩:=h.room b o hb h1 h2
  exact k.room b o (Nat.lt_of_lt_of_le hb h.fr.size) g1 g2⟩
theorem MkW.of_below {lo hi:Nat} {w w':World} (hb:Below w.heap.size w w'):MkW lo hi w w' :=
 ⟨Fr.of_below hb,fun b o hl h1 h2=>by
  have hk:=hb.block b hl
  obtain⟨v,hv⟩:=h1
  exact⟨⟨v,(World.cell?_of_block (w:=w) (a:=⟨b,o,none⟩) hk).trans hv⟩,by simpa[World.frozen?,hk] using h2⟩⟩
theorem MkW.set {lo hi:Nat} (w:World) (b o:Nat) (v:Value) (hl:lo<=b) (hh:b<hi):MkW lo hi w (w.setCell ⟨b,o,none⟩ v) :=
 ⟨(fr_setT w b o v).weak (fun g e=>⟨by omega,by omega⟩),fun b' o' _ h1 h2=>room_set w _ v b' o' h1 h2⟩
def RoomU (w:World) (lo hi:Nat) (a:Option Addr) (n:Nat):Prop:=0<n->∃ b off,a=some ⟨b,off,none⟩∧(lo<=b∧b<hi)∧∀ i,i<n->(∃ v,w.cell? ⟨b,off+i,none⟩=some v)∧w.frozen? ⟨b,off+i,none⟩=false
theorem RoomU.mk {w w':World} {lo hi lo' hi':Nat} {a:Option Addr} {n:Nat} (h:RoomU w lo hi a n) (hm:MkW lo' hi' w w') (hh:hi<=w.heap.size):RoomU w' lo hi a n:=fun hn=>by
 obtain⟨b,off,e,hl,hc⟩:=h hn
 exact⟨b,off,e,hl,fun i hi=>hm.room b (off+i) (by omega) (hc i hi).1 (hc i hi).2⟩
def MarkU (w:World) (lo hi g n:Nat) (ts:List TN):Prop:=g<hi∧∃ xs,w.ownsRow lo 103 6 (.slice (some ⟨g,0,none⟩) n n) n xs∧ts.length=n∧∀ j,j<n->∃ ka kn kc va vn vc oa on oc ya yn yc,xs[j*6+2]?=some (.slice ka kn kc)∧xs[j*6+3]?=some (.slice va vn vc)∧xs[j*6+4]?=some (.slice oa on oc)∧xs[j*6+5]?=some (.slice ya yn yc) ∧
 (kn=(ts.getD j dT).keys.length∧vn=(ts.getD j dT).vals.length∧on=(ts.getD j dT).over.length∧yn=(ts.getD j dT).kids.length)∧(RoomU w (g+1) hi ka kn∧RoomU w (g+1) hi va vn∧RoomU w (g+1) hi oa on∧RoomU w (g+1) hi ya yn)
theorem MarkT.u {w:World} {lo g n:Nat} {ts:List TN} (h:MarkT w lo g n ts):MarkU w lo w.heap.size g n ts:=by
 obtain⟨xs,h1,h2,h3⟩:=h
 exact⟨(h1.lt g rfl).2,xs,h1,h2,h3⟩
theorem MarkU.below {w w':World} {lo hi g n:Nat} {ts:List TN} (h:MarkU w lo hi g n ts) (hb:Below w.heap.size w w') (hh:hi<=w.heap.size):MarkU w' lo hi g n ts:=by
 obtain⟨h0,xs,h1,h2,h3⟩:=h
 have hm:MkW 0 0 w w':=MkW.of_below hb
 refine⟨h0,xs,owns_below h1 hb,h2,fun j hj=>?_⟩
 obtain⟨ka,kn,kc,va,vn,vc,oa,on,oc,ya,yn,yc,e2,e3,e4,e5,e6,m1,m2,m3,m4⟩:=h3 j hj
 exact⟨ka,kn,kc,va,vn,vc,oa,on,oc,ya,yn,yc,e2,e3,e4,e5,e6,m1.mk hm hh,m2.mk hm hh,m3.mk hm hh,m4.mk hm hh⟩
theorem markStringS_room (a:Option Addr) (n c k lo hi:Nat) (w:World) (h:RoomU w lo hi a n) (hh:hi<=w.heap.size) (hk:k+n<=1000000000) :
  Calls Tryz.prog 59 #[.slice a n c,.int .i64 k] w fun e w'=>e=.returned (.int .i64 (k+n:Nat))∧MkW lo hi w w':=by
 have H:Hid (RoomU w lo hi a n):=h
 clear h
 go_enter Tryz.func59,Tryz.ntmps59
 go_wp2_with fail
 go_loopw [1,5] (fun kv i wr=>∃ j:Nat,j<=n∧i=.int .i64 j∧kv=.int .i64 ((k+j:Nat):Int)∧MkW lo hi w wr) (fun _ i _=>n - (intOf i).toNat)
 case atStart=>exact⟨0,Nat.zero_le _,rfl,rfl,MkW.refl _ _ _⟩
 case round =>
  obtain⟨j,hj,rfl,rfl,hm⟩:=hrel
  by_cases hlt:j<n
  ·obtain⟨b,off,rfl,hl,hc⟩:=H.out (by omega)
   have hbl:=Nat.lt_of_lt_of_le (Nat.lt_of_lt_of_le hl.2 hh) hm.fr.size
   have hmt:=markText_any (k+j) wr (by omega)
   generalize mkS (k+j)=ms at *
   go_wp2_with fail
   refine hmt.mono ?_
   rintro e w2 ⟨rfl,hb2⟩
   have hm2:=hm.trans (MkW.of_below hb2)
   obtain⟨⟨u,hu⟩,hf⟩:=hm2.room b (off+j) (by omega) (hc j hlt).1 (hc j hlt).2
   have hm3:=hm2.trans (MkW.set w2 b (off+j) (.string ms) hl.1 hl.2)
   have hbl2:=Nat.lt_of_lt_of_le hbl hb2.size
   clear hmt hm hc
   go_wp2_with fail
   go_roundw
   case rel=>exact⟨j+1,by omega,by go_num,by go_num,hm3⟩
   case measure=>simp[intOf];omega
  ·have hje:j=n:=by omega
   subst hje
   go_wp2_with fail
   go_ret
   exact⟨rfl,hm⟩
theorem markInt64S_room (a:Option Addr) (n c k lo hi:Nat) (w:World) (h:RoomU w lo hi a n) (hh:hi<=w.heap.size) (hk:k+n<=1000000000) :
  Calls Tryz.prog 13 #[.slice a n c,.int .i64 k] w fun e w'=>e=.returned (.int .i64 (k+n:Nat))∧MkW lo hi w w':=by
 have H:Hid (RoomU w lo hi a n):=h
 clear h
 go_enter Tryz.func13,Tryz.ntmps13
 go_wp2_with fail
 go_loopw [1,5] (fun kv i wr=>∃ j:Nat,j<=n∧i=.int .i64 j∧kv=.int .i64 ((k+j:Nat):Int)∧MkW lo hi w wr) (fun _ i _=>n - (intOf i).toNat)
 case atStart=>exact⟨0,Nat.zero_le _,rfl,rfl,MkW.refl _ _ _⟩
 case round =>
  obtain⟨j,hj,rfl,rfl,hm⟩:=hrel
  by_cases hlt:j<n
  ·obtain⟨b,off,rfl,hl,hc⟩:=H.out (by omega)
   have hbl:=Nat.lt_of_lt_of_le (Nat.lt_of_lt_of_le hl.2 hh) hm.fr.size
   obtain⟨⟨u,hu⟩,hf⟩:=hm.room b (off+j) (by omega) (hc j hlt).1 (hc j hlt).2
   obtain⟨kj,hkj⟩:∃ kj,k+j=kj:=⟨_,rfl⟩
   have HKJ:Hid (k+j=kj):=hkj
   rw[hkj]
   have hkb:kj+1<=1000000000:=by omega
   clear hkj
   have hm3:=hm.trans (MkW.set wr b (off+j) (.int .i64 (kj:Int)) hl.1 hl.2)
   clear hm hc
   go_wp2_with fail
   go_roundw
   case rel=>exact⟨j+1,by omega,by go_num,by have:=HKJ.out;rw[show k+(j+1)=kj+1 by omega];go_num,hm3⟩
   case measure=>simp[intOf];omega
  ·have hje:j=n:=by omega
   subst hje
   go_wp2_with fail
   go_ret
   exact⟨rfl,hm⟩
theorem MkW.lower {lo lo' hi:Nat} {w w':World} (h:MkW lo' hi w w') (hl:lo<=lo'):MkW lo hi w w':=⟨h.fr.weak (fun k hk=>⟨by omega,hk.2⟩),h.room⟩
def mLen (t:TN):Nat:=2+t.keys.length+t.vals.length+t.over.length+t.kids.length
def mLens (ts:List TN):Nat:=(ts.map mLen).sum
theorem mLens_le (ts:List TN):(mLens ts:Int)<=3*wTNs ts:=by
 unfold mLens
 induction ts with
 | nil=>simp[wTNs]
 | cons t r ih =>
  have h1:=wStrs_len t.keys
  have h2:=wStrs_len t.vals
  simp only[List.map_cons,List.sum_cons,wTNs,wTN,mLen] at ih ⊢
  push_cast at ih ⊢
  omega
def HdOk (xs ys:List Value) (n:Nat):Prop:=∀ i,i<n->∀ r,2<=r->r<6->ys[i*6+r]?=xs[i*6+r]?
theorem HdOk.set2 {xs ys:List Value} {n j:Nat} {u v:Value} (h:HdOk xs ys n):HdOk xs ((ys.set (j*6) u).set (j*6+1) v) n:=fun i hi r h2 h6=>by
 rw[List.getElem?_set_ne (by omega),List.getElem?_set_ne (by omega)]
 exact h i hi r h2 h6
theorem markTNodeS_room (g n k lo hi:Nat) (ts:List TN) (w:World) (h:MarkU w lo hi g n ts) (hh:hi<=w.heap.size) (hk:k+mLens ts<=100000000) :
  Calls Tryz.prog 31 #[.slice (some ⟨g,0,none⟩) n n,.int .i64 k] w fun e w'=>e=.returned (.int .i64 (k+mLens ts:Nat))∧MkW lo hi w w':=by
 obtain⟨hghi,xs,hown0,hlen,hx⟩:=h
 have HX:Hid (∀ j,j<n->∃ ka kn kc va vn vc oa on oc ya yn yc,xs[j*6+2]?=some (.slice ka kn kc)∧xs[j*6+3]?=some (.slice va vn vc)∧xs[j*6+4]?=some (.slice oa on oc)∧xs[j*6+5]?=some (.slice ya yn yc)∧(kn=(ts.getD j dT).keys.length∧vn=(ts.getD j dT).vals.length∧on=(ts.getD j dT).over.length∧yn=(ts.getD j dT).kids.length)∧(RoomU w (g+1) hi ka kn∧RoomU w (g+1) hi va vn∧RoomU w (g+1) hi oa on∧RoomU w (g+1) hi ya yn)):=hx
 have HL:Hid (ts.length=n):=hlen
 have hgl:=hown0.lt g rfl
 have hnm:n<=100000000:=by
  have:ts.length<=mLens ts:=by
   unfold mLens
   clear hx HX hk hlen HL hown0
   induction ts with
   | nil=>simp
   | cons t r ih=>simp only[List.map_cons,List.sum_cons,List.length_cons,mLen] at ih ⊢;omega
  omega
 have HMB:Hid (k+mLens ts<=100000000):=hk
 clear hx hlen hk
 go_enter Tryz.func31,Tryz.ntmps31
 go_wp2_with fail
 go_loopw [1,5] (fun kv i wr=>∃ (j kk:Nat) (ys:List Value),j<=n∧i=.int .i64 j∧kv=.int .i64 (kk:Int)∧kk<=100000000∧Hid (kk=k+((ts.map mLen).take j).sum)∧wr.ownsRow lo 103 6 (.slice (some ⟨g,0,none⟩) n n) n ys∧Hid (HdOk xs ys n)∧MkW lo hi w wr) (fun _ i _=>n - (intOf i).toNat)
 case atStart=>exact⟨0,k,xs,Nat.zero_le _,rfl,rfl,by have:=HMB.out;omega,by show _=_;simp,hown0,fun i hi r h2 h6=>rfl,MkW.refl _ _ _⟩
 case round =>
  clear hown0
  obtain⟨j,kk,ys,hj,rfl,rfl,hkk,HK,hown,HH,hm⟩:=hrel
  by_cases hlt:j<n
  ·obtain⟨ka,kn,kc,va,vn,vc,oa,on,oc,ya,yn,yc,e2,e3,e4,e5,⟨l1,l2,l3,l4⟩,m1,m2,m3,m4⟩:=HX.out j hlt
   have HS:Hid (((ts.map mLen).take (j+1)).sum=((ts.map mLen).take j).sum+(2+kn+vn+on+yn)∧((ts.map mLen).take (j+1)).sum<=mLens ts):=by
    have hjl:j<ts.length:=by have:=HL.out;omega
    refine⟨?_,sum_take_le _ _⟩
    rw[sum_take_succ (by simpa using hjl),l1,l2,l3,l4]
    simp[List.getD,hjl,mLen]
   have hkb:kk+(2+kn+vn+on+yn)<=100000000:=by
    have h1:=HK.out;have h2:=HS.out;have h3:=HMB.out
    omega
   clear l1 l2 l3 l4
   have M1:Hid (RoomU w (g+1) hi ka kn):=m1
   have M2:Hid (RoomU w (g+1) hi va vn):=m2
   have M3:Hid (RoomU w (g+1) hi oa on):=m3
   have M4:Hid (RoomU w (g+1) hi ya yn):=m4
   clear m1 m2 m3 m4
   have hglr:=hown.lt g rfl
   have hyl:=hown.1
   have hf0:=hown.frozenAt (j*6)
   have hf1:=hown.frozenAt (j*6+1)
   obtain⟨u0,hu0⟩:∃ u,wr.cell? ⟨g,j*6,none⟩=some u:=⟨ys[j*6]'(by omega),by rw[hown.cellAt (j*6) (by omega)];exact List.getElem?_eq_getElem _⟩
   obtain⟨u1,hu1⟩:∃ u,wr.cell? ⟨g,j*6+1,none⟩=some u:=⟨ys[j*6+1]'(by omega),by rw[hown.cellAt (j*6+1) (by omega)];exact List.getElem?_eq_getElem _⟩
   have R2:=(hown.stored (j*6) (.bool (((kk:Int) % 3) == 0))).1.stored (j*6+1) (.int .i64 ((kk:Int)+1))
   have HD2:Hid (HdOk xs ((ys.set (j*6) (.bool (((kk:Int) % 3) == 0))).set (j*6+1) (.int .i64 ((kk:Int)+1))) n):=HH.out.set2
   have MW2:=(hm.trans (MkW.set wr g (j*6) (.bool (((kk:Int) % 3) == 0)) hgl.1 hghi)).trans (MkW.set (wr.setCell ⟨g,j*6,none⟩ (.bool (((kk:Int) % 3) == 0))) g (j*6+1) (.int .i64 ((kk:Int)+1)) hgl.1 hghi)
   have hW2:=R2.1
   go_upto_region 8 with fail
   replace R2:=hW2
   generalize ((wr.setCell ⟨g,j*6,none⟩ (.bool (((kk:Int) % 3) == 0))).setCell ⟨g,j*6+1,none⟩ (.int .i64 ((kk:Int)+1)))=W2 at *
   generalize ((ys.set (j*6) (.bool (((kk:Int) % 3) == 0))).set (j*6+1) (.int .i64 ((kk:Int)+1)))=zs at *
   clear hf0 hf1 hu0 hu1 hown hm HH hW2 hyl hglr
   have gW2:=(R2.lt g rfl).2
   have xc:∀ (W:World),W.ownsRow lo 103 6 (.slice (some ⟨g,0,none⟩) n n) n zs->∀ r,2<=r->r<6->W.cell? ⟨g,j*6+r,none⟩=xs[j*6+r]?:=fun W hW r h2 h6=>by
    rw[hW.cellAt (j*6+r) (by omega)]
    exact HD2.out j hlt r h2 h6
   have XC:Hid _:=xc
   clear xc
   obtain⟨k2,hk2⟩:∃ k2,kk+2=k2:=⟨_,rfl⟩
   have hcast:(kk:Int)+1+1=(k2:Int):=by omega
   rw[hcast]
   clear hcast
   have x2:=(XC.out W2 R2 2 (by omega) (by omega)).trans e2
   have hc2:=markStringS_room ka kn kc k2 (g+1) hi W2 (M1.out.mk MW2 hh) (Nat.le_trans hh MW2.fr.size) (by omega)
   go_wp2_with fail
   refine hc2.mono ?_
   rintro e w3 ⟨rfl,hmk⟩
   have MW3:=MW2.trans (hmk.lower (lo:=lo) (by omega))
   have R3:=owns_fr R2 hmk.fr (fun q hq e=>by simp[Value.ownBlock] at hq;omega)
   have g3:=(R3.lt g rfl).2
   have x3:=(XC.out w3 R3 3 (by omega) (by omega)).trans e3
   obtain⟨k3,hk3⟩:∃ k3,k2+kn=k3:=⟨_,rfl⟩
   rw[hk3]
   clear hc2 hmk R2 MW2 x2 gW2
   have hc3:=markStringS_room va vn vc k3 (g+1) hi w3 (M2.out.mk MW3 hh) (Nat.le_trans hh MW3.fr.size) (by omega)
   go_wp2_with fail
   refine hc3.mono ?_
   rintro e w4 ⟨rfl,hmk⟩
   have MW4:=MW3.trans (hmk.lower (lo:=lo) (by omega))
   have R4:=owns_fr R3 hmk.fr (fun q hq e=>by simp[Value.ownBlock] at hq;omega)
   have g4:=(R4.lt g rfl).2
   have x4:=(XC.out w4 R4 4 (by omega) (by omega)).trans e4
   obtain⟨k4,hk4⟩:∃ k4,k3+vn=k4:=⟨_,rfl⟩
   rw[hk4]
   clear hc3 hmk R3 MW3 x3 g3
   have hc4:=markInt64S_room oa on oc k4 (g+1) hi w4 (M3.out.mk MW4 hh) (Nat.le_trans hh MW4.fr.size) (by omega)
   go_wp2_with fail
   refine hc4.mono ?_
   rintro e w5 ⟨rfl,hmk⟩
   have MW5:=MW4.trans (hmk.lower (lo:=lo) (by omega))
   have R5:=owns_fr R4 hmk.fr (fun q hq e=>by simp[Value.ownBlock] at hq;omega)
   have g5:=(R5.lt g rfl).2
   have x5:=(XC.out w5 R5 5 (by omega) (by omega)).trans e5
   obtain⟨k5,hk5⟩:∃ k5,k4+on=k5:=⟨_,rfl⟩
   rw[hk5]
   clear hc4 hmk R4 MW4 x4 g4
   have hc5:=markInt64S_room ya yn yc k5 (g+1) hi w5 (M4.out.mk MW5 hh) (Nat.le_trans hh MW5.fr.size) (by omega)
   go_wp2_with fail
   refine hc5.mono ?_
   rintro e w6 ⟨rfl,hmk⟩
   have MW6:=MW5.trans (hmk.lower (lo:=lo) (by omega))
   have R6:=owns_fr R5 hmk.fr (fun q hq e=>by simp[Value.ownBlock] at hq;omega)
   obtain⟨k6,hk6⟩:∃ k6,k5+yn=k6:=⟨_,rfl⟩
   rw[hk6]
   clear hc5 hmk R5 MW5 x5 g5
   have HK6:Hid (k6=k+((ts.map mLen).take (j+1)).sum):=by
    show _=_
    have h1:=HK.out;have h2:=HS.out.1
    omega
   have hk6b:k6<=100000000:=by omega
   clear hk2 hk3 hk4 hk5 hk6 HK HS hkb XC e2 e3 e4 e5
   go_wp2_with fail
   go_roundw
   case rel=>exact⟨j+1,k6,zs,by omega,by go_num,rfl,hk6b,HK6,R6,HD2,MW6⟩
   case measure=>simp[intOf];omega
  ·have HE:Hid (kk=k+mLens ts):=by
    have h1:=HK.out
    rw[List.take_of_length_le (by simp;have:=HL.out;omega)] at h1
    exact h1
   clear HK hown HH
   go_wp2_with fail
   go_ret
   exact⟨by rw[<-HE.out];rfl,hm⟩
theorem markTree_room (g n k lo hi:Nat) (ts:List TN) (w:World) (h:MarkU w lo hi g n ts) (hh:hi<=w.heap.size) (hk:k+mLens ts<=100000000) :
  Calls Tryz.prog 12 #[.agg #[.slice (some ⟨g,0,none⟩) n n],.int .i64 k] w fun e w'=>e=.returned (.int .i64 (k+mLens ts:Nat))∧MkW lo hi w w':=by
 have ab:=(Below.refl w.heap.size w).alloc (Nat.le_refl _) (.cells #[.slice (some ⟨g,0,none⟩) n n] 29)
 have hc:=markTNodeS_room g n k lo hi ts _ (h.below ab hh) (Nat.le_trans hh ab.size) hk
 obtain⟨kr,hkr⟩:∃ kr,k+mLens ts=kr:=⟨_,rfl⟩
 rw[hkr] at hc hk ⊢
 go_enter Tryz.func12,Tryz.ntmps12
 go_wp2_with fail
 refine hc.mono ?_
 rintro e w1 ⟨rfl,hm⟩
 have hm2:=(MkW.of_below (lo:=lo) (hi:=hi) ab).trans hm
 clear hc hm h hkr
 go_wp2_with fail
 go_ret
 exact⟨rfl,hm2⟩
def mkSs (k n:Nat):List ByteArray:=(List.range n).map fun j=>mkS (k+j)
def mkIs (k n:Nat):List Int:=(List.range n).map fun j=>((k+j:Nat):Int)
theorem mkSs_get (k n j:Nat) (h:j<n):(mkSs k n).getD j ByteArray.empty=mkS (k+j):=by simp[mkSs,List.getD,h]
theorem mkIs_get (k n j:Nat) (h:j<n):(mkIs k n).getD j 0=((k+j:Nat):Int):=by simp[mkIs,List.getD,h]
theorem mkSs_len (k n:Nat):(mkSs k n).length=n:=by simp[mkSs]
theorem mkIs_len (k n:Nat):(mkIs k n).length=n:=by simp[mkIs]
theorem row_set {α:Type} {cs:α->List Value} (hc:∀ x,(cs x).length=1) {ys:List Value} {zs:List α} {d:α} {n j:Nat} {v:Value} (hl:zs.length=n) (hyl:ys.length=n) (hj:j<n) (hv:cs (zs.getD j d)=[v]) (h:∀ r,r<j->ys[r]?=(rowsOf cs zs)[r]?):∀ r,r<j+1->(ys.set j v)[r]?=(rowsOf cs zs)[r]?:=fun r hr=>by
 by_cases hrj:r=j
 ·subst hrj
  have e0:=rowsOf_get hc d zs r 0 (by omega) (by omega)
  rw[Nat.mul_one,Nat.add_zero,hv] at e0
  rw[List.getElem?_set_self (by omega),e0]
  rfl
 ·rw[List.getElem?_set_ne (by omega)]
  exact h r (by omega)
theorem some_of_lt {w:World} {base e size:Nat} {a:Option Addr} {n c:Nat} {xs:List Value} (h:w.ownsRow base e size (.slice a n c) n xs) (hn:0<n):∃ g,a=some ⟨g,0,none⟩:=by
 rcases h.2 with ⟨e1,e2⟩ | ⟨g,cap,cur,e1,_⟩
 ·omega
 ·simp only[Value.slice.injEq] at e1
  exact⟨g,e1.1⟩
theorem markStringS_own (a:Option Addr) (n c k base:Nat) (xs:List Value) (w:World) (h:w.ownsRow base 9 1 (.slice a n c) n xs) (hk:k+n<=1000000000) :
  Calls Tryz.prog 59 #[.slice a n c,.int .i64 k] w fun e w'=>e=.returned (.int .i64 (k+n:Nat))∧w'.ownsRow base 9 1 (.slice a n c) n (rowsOf strCells (mkSs k n))∧Fr (fun b=>some b=(Value.slice a n c).ownBlock) w w':=by
 have hn63:n<=1000000000:=by omega
 go_enter Tryz.func59,Tryz.ntmps59
 go_wp2_with fail
 go_loopw [1,5] (fun kv i wr=>∃ (j:Nat) (ys:List Value),j<=n∧i=.int .i64 j∧kv=.int .i64 ((k+j:Nat):Int)∧wr.ownsRow base 9 1 (.slice a n c) n ys∧Hid (∀ r,r<j->ys[r]?=(rowsOf strCells (mkSs k n))[r]?)∧Fr (fun b=>some b=(Value.slice a n c).ownBlock) w wr) (fun _ i _=>n - (intOf i).toNat)
 case atStart=>exact⟨0,xs,Nat.zero_le _,rfl,rfl,h,fun r hr=>by omega,Fr.refl _ _⟩
 case round =>
  clear h
  obtain⟨j,ys,hj,rfl,rfl,hown,HG,hfr⟩:=hrel
  by_cases hlt:j<n
  ·obtain⟨g,rfl⟩:=some_of_lt hown (by omega)
   have hgl:=(hown.lt g rfl).2
   have hyl:=hown.1
   have HG2:Hid (∀ r,r<j+1->(ys.set j (.string (mkS (k+j))))[r]?=(rowsOf strCells (mkSs k n))[r]?):=row_set (d:=ByteArray.empty) sc1 (mkSs_len k n) (by omega) hlt (by rw[mkSs_get _ _ _ hlt];rfl) HG.out
   have hmt:=markText_any (k+j) wr (by omega)
   generalize mkS (k+j)=ms at *
   go_wp2_with fail
   refine hmt.mono ?_
   rintro e w2 ⟨rfl,hb2⟩
   have hown2:=owns_below hown hb2
   have hgl2:=Nat.lt_of_lt_of_le hgl hb2.size
   have hf0:=hown2.frozenAt j
   obtain⟨u0,hu0⟩:∃ u,w2.cell? ⟨g,j,none⟩=some u:=⟨ys[j]'(by omega),by rw[hown2.cellAt j (by omega)];exact List.getElem?_eq_getElem _⟩
   have R1:=(hown2.stored j (.string ms)).1
   have fr1:=(hfr.trans (Fr.of_below hb2)).trans ((fr_setT w2 g j (.string ms)).weak (T:=fun b=>some b=(Value.slice (some ⟨g,0,none⟩) n c).ownBlock) (fun b e=>by subst e;rfl))
   clear hmt hown hown2 hfr hb2 hgl HG
   go_wp2_with fail
   go_roundw
   case rel=>exact⟨j+1,_,by omega,by go_num,by go_num,R1,HG2,fr1⟩
   case measure=>simp[intOf];omega
  ·have hje:j=n:=by omega
   have hys:ys=rowsOf strCells (mkSs k n):=by
    refine List.ext_getElem? fun r=>?_
    by_cases hr:r<n
    ·exact HG.out r (by omega)
    ·rw[List.getElem?_eq_none (by rw[hown.1];omega),List.getElem?_eq_none (by rw[rowsOf_length sc1,mkSs_len];omega)]
   rw[hys] at hown
   have HOW:Hid (wr.ownsRow base 9 1 (.slice a n c) n (rowsOf strCells (mkSs k n))):=hown
   clear hown HG hys
   subst hje
   go_wp2_with fail
   go_ret
   exact⟨rfl,HOW.out,hfr⟩
theorem markInt64S_own (a:Option Addr) (n c k base:Nat) (xs:List Value) (w:World) (h:w.ownsRow base 2 1 (.slice a n c) n xs) (hk:k+n<=1000000000) :
  Calls Tryz.prog 13 #[.slice a n c,.int .i64 k] w fun e w'=>e=.returned (.int .i64 (k+n:Nat))∧w'.ownsRow base 2 1 (.slice a n c) n (rowsOf intCells (mkIs k n))∧Fr (fun b=>some b=(Value.slice a n c).ownBlock) w w':=by
 have hn63:n<=1000000000:=by omega
 go_enter Tryz.func13,Tryz.ntmps13
 go_wp2_with fail
 go_loopw [1,5] (fun kv i wr=>∃ (j:Nat) (ys:List Value),j<=n∧i=.int .i64 j∧kv=.int .i64 ((k+j:Nat):Int)∧wr.ownsRow base 2 1 (.slice a n c) n ys∧Hid (∀ r,r<j->ys[r]?=(rowsOf intCells (mkIs k n))[r]?)∧Fr (fun b=>some b=(Value.slice a n c).ownBlock) w wr) (fun _ i _=>n - (intOf i).toNat)
 case atStart=>exact⟨0,xs,Nat.zero_le _,rfl,rfl,h,fun r hr=>by omega,Fr.refl _ _⟩
 case round =>
  clear h
  obtain⟨j,ys,hj,rfl,rfl,hown,HG,hfr⟩:=hrel
  by_cases hlt:j<n
  ·obtain⟨g,rfl⟩:=some_of_lt hown (by omega)
   have hgl:=(hown.lt g rfl).2
   have hyl:=hown.1
   have HG2:Hid (∀ r,r<j+1->(ys.set j (.int .i64 ((k+j:Nat):Int)))[r]?=(rowsOf intCells (mkIs k n))[r]?):=row_set (d:=(0:Int)) ic1 (mkIs_len k n) (by omega) hlt (by rw[mkIs_get _ _ _ hlt];rfl) HG.out
   obtain⟨kj,hkj⟩:∃ kj,k+j=kj:=⟨_,rfl⟩
   have HKJ:Hid (k+j=kj):=hkj
   rw[hkj] at HG2 ⊢
   have hkb:kj+1<=1000000000:=by omega
   clear hkj
   have hf0:=hown.frozenAt j
   obtain⟨u0,hu0⟩:∃ u,wr.cell? ⟨g,j,none⟩=some u:=⟨ys[j]'(by omega),by rw[hown.cellAt j (by omega)];exact List.getElem?_eq_getElem _⟩
   have R1:=(hown.stored j (.int .i64 (kj:Int))).1
   have fr1:=hfr.trans ((fr_setT wr g j (.int .i64 (kj:Int))).weak (T:=fun b=>some b=(Value.slice (some ⟨g,0,none⟩) n c).ownBlock) (fun b e=>by subst e;rfl))
   clear hown hfr HG
   go_wp2_with fail
   go_roundw
   case rel=>exact⟨j+1,_,by omega,by go_num,by have:=HKJ.out;rw[show k+(j+1)=kj+1 by omega];go_num,R1,HG2,fr1⟩
   case measure=>simp[intOf];omega
  ·have hje:j=n:=by omega
   have hys:ys=rowsOf intCells (mkIs k n):=by
    refine List.ext_getElem? fun r=>?_
    by_cases hr:r<n
    ·exact HG.out r (by omega)
    ·rw[List.getElem?_eq_none (by rw[hown.1];omega),List.getElem?_eq_none (by rw[rowsOf_length ic1,mkIs_len];omega)]
   rw[hys] at hown
   have HOW:Hid (wr.ownsRow base 2 1 (.slice a n c) n (rowsOf intCells (mkIs k n))):=hown
   clear hown HG hys
   subst hje
   go_wp2_with fail
   go_ret
   exact⟨rfl,HOW.out,hfr⟩
end Go.Proofs.YtkhglgalbifcnaaGreat
