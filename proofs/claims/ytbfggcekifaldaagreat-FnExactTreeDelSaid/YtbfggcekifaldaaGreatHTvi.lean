import Derived.Test.YtbfggcekifaldaaGreatTlr
import Derived.Test.YtbfggcekifaldaaGreatTgh
import Derived.Test.YtbfggcekifaldaaGreatHTfa
import Derived.Shelf.Spec.SlicesInsertGrow
import Derived.Laws.CopyRow
import Derived.Laws.Cover1
namespace Go.Proofs.YtbfggcekifaldaaGreat
open Go.RowKit
set_option linter.unusedVariables false
set_option linter.unusedSimpArgs false
set_option maxRecDepth 100000
theorem growOf {w w':World} {g:Nat} (h:Below w.heap.size w w') (v:Option Nat):w.grownBy w' v:=⟨h.os,h.tape,h.output,h.size,fun k hk _=>h.block k hk⟩
def posT (key:ByteArray):List (ByteArray × ByteArray × Int)->Nat
 | []=>0
 | s::r=>if lessB s.1 key then posT key r+1 else 0
theorem posT_le (key:ByteArray):∀ zs,posT key zs<=zs.length
 | []=>Nat.le_refl _
 | s::r=>by
  have:=posT_le key r
  unfold posT
  split<;>simp<;>omega
theorem pos_is (key:ByteArray):∀ (zs:List (ByteArray × ByteArray × Int)) (i:Nat),PosIs zs key i->i=posT key zs
 | [],i,h=>by have:=h.1;simp at this;simp[posT,this]
 | s::r,i,h=>by
  obtain⟨h1,h2,h3⟩:=h
  unfold posT
  cases i with
  | zero =>
   have:=h3 0 (Nat.le_refl _) (by simp)
   simp[List.getD] at this
   simp[this]
  | succ i =>
   have h0:=h2 0 (by omega)
   simp[List.getD] at h0
   rw[if_pos h0,pos_is key r i ⟨by simp at h1;omega,fun k hk=>by simpa[List.getD] using h2 (k+1) (by omega),fun k hk1 hk2=>by simpa[List.getD] using h3 (k+1) (by omega) (by simp;omega)⟩]
def thereT (key:ByteArray) (zs:List (ByteArray × ByteArray × Int)):Bool:=decide (posT key zs<zs.length∧(zs.getD (posT key zs) (ByteArray.empty,ByteArray.empty,0)).1=key)
def putZ (key val:ByteArray) (zs:List (ByteArray × ByteArray × Int)):List (ByteArray × ByteArray × Int):=zs.take (posT key zs)++(key,val,0)::zs.drop (if thereT key zs then posT key zs+1 else posT key zs)
def leafZ (zs:List (ByteArray × ByteArray × Int)):T:=⟨true,0,zs.map (fun s=>s.1),zs.map (fun s=>s.2.1),zs.map (fun s=>s.2.2),[]⟩
theorem zip_map3:∀ (zs:List (ByteArray × ByteArray × Int)),(zs.map (fun s=>s.1)).zip ((zs.map (fun s=>s.2.1)).zip (zs.map (fun s=>s.2.2)))=zs
 | []=>rfl
 | s::r=>by simp[zip_map3 r]
theorem leafZ_zip (zs:List (ByteArray × ByteArray × Int)):(leafZ zs).keys.zip ((leafZ zs).vals.zip (leafZ zs).over)=zs:=zip_map3 zs
def towO (key:ByteArray):List T->Option Nat
 | []=>none
 | t::r=>match towO key r with
  | some m=>some (m+1)
  | none=>if leB t.low key then some 0 else none
def towN (key:ByteArray) (ys:List T):Nat:=(towO key ys).getD 0
theorem towO_some (key:ByteArray):∀ (ys:List T) (m:Nat) (k:T),ys[m]?=some k->leB k.low key=true->(∀ i k,m<i->ys[i]?=some k->¬ leB k.low key=true)->towO key ys=some m
 | [],m,k,h,_,_=>by simp at h
 | t::r,0,k,h,hk,ha=>by
  have hn:towO key r=none:=towO_none key r (fun i k hi=>ha (i+1) k (by omega) (by simpa using hi))
  simp at h
  subst h
  simp[towO,hn,hk]
 | t::r,m+1,k,h,hk,ha=>by
  have:=towO_some key r m k (by simpa using h) hk (fun i k hi hk=>ha (i+1) k (by omega) (by simpa using hk))
  simp[towO,this]
 where
 towO_none (key:ByteArray):∀ (ys:List T),(∀ (i:Nat) k,ys[i]?=some k->¬ leB k.low key=true)->towO key ys=none
 | [],_=>rfl
 | t::r,h=>by
  have h1:=towO_none key r (fun i k hi=>h (i+1) k (by simpa using hi))
  have h2:=h 0 t rfl
  simp[towO,h1,h2]
theorem tow_is {t:T} {key:ByteArray} {m:Nat} (h:TowardIs t key m):towN key t.kids=m:=by
 obtain⟨h1,h2,h3⟩:=h
 rcases h2 with rfl | ⟨k,hk,hl⟩
 ·obtain⟨k,hk⟩:∃ k,t.kids[0]?=some k:=⟨_,List.getElem?_eq_getElem h1⟩
  by_cases hl:leB k.low key=true
  ·unfold towN;rw[towO_some key _ 0 k hk hl h3];rfl
  ·unfold towN
   rw[towO_some.towO_none key _ (fun i k' hi=>by
    cases i with
    | zero=>rw[hk] at hi;simp at hi;subst hi;exact hl
    | succ i=>exact h3 (i+1) k' (by omega) hi)]
   rfl
 ·unfold towN;rw[towO_some key _ m k hk hl h3];rfl
def T.fore (t:T) (k:Nat):T:=⟨t.leaf,0,t.keys.take k,t.vals.take k,t.over.take k,t.kids.take k⟩
def T.rest (t:T) (k:Nat):T:=⟨t.leaf,0,t.keys.drop k,t.vals.drop k,t.over.drop k,t.kids.drop k⟩
def cutT (t:T):List T:=if t.size<=4 then [t] else [t.fore 3,t.rest 3]
def putT (key val:ByteArray):T->T
 | ⟨l,p,k,v,o,y⟩=>if l then leafZ (putZ key val (k.zip (v.zip o)))
  else ⟨false,0,[],[],[],y.take (towN key y)++cutT ((y.map (putT key val)).getD (towN key y) leafT)++y.drop (towN key y+1)⟩
def rootP (key val:ByteArray) (t:T):T:=if (putT key val t).size<=4 then putT key val t else ⟨false,0,[],[],[],cutT (putT key val t)⟩
theorem tow_lt {key:ByteArray}:∀ (ys:List T),0<ys.length->towN key ys<ys.length:=by
 have h:∀ (ys:List T) m,towO key ys=some m->m<ys.length:=by
  intro ys
  induction ys with
  | nil=>intro m h;simp[towO] at h
  | cons t r ih =>
   intro m h
   unfold towO at h
   cases hr:towO key r with
   | none =>
    rw[hr] at h
    simp at h
    simp[<-h.2]
   | some k =>
    rw[hr] at h
    simp at h
    have:=ih k hr
    simp
    omega
 intro ys h0
 unfold towN
 cases hr:towO key ys with
 | none=>simpa using h0
 | some m=>exact h ys m hr
theorem tow_kid {key:ByteArray} {ys:List T} (h:0<ys.length):∃ k,ys[towN key ys]?=some k∧k ∈ ys:=by
 have:=tow_lt (key:=key) ys h
 exact⟨_,List.getElem?_eq_getElem this,List.getElem_mem _⟩
def scanB (lo hi k:ByteArray):Bool:=(Op.bytesLess lo.toList k.toList || lo.toList == k.toList) && (hi.toList.isEmpty || Op.bytesLess k.toList hi.toList)
def scanL (lo hi:ByteArray) (zs:List (ByteArray × ByteArray × Int)):List (ByteArray × ByteArray × Int):=zs.filter (fun s=>scanB lo hi s.1)
def ScanAns (zs:List (ByteArray × ByteArray × Int)) (w:World) (e:Ending) (w':World):Prop:=∃ a c,e=.returned (.slice a zs.length c)∧w'.ownsRow w.heap.size 69 2 (.slice a zs.length c) zs.length (rowsOf prCells zs)∧Below w.heap.size w w'
def specScan (ts:List TN) (lo hi:ByteArray) (zs:List (ByteArray × ByteArray × Int)):Prop:=(¬ SpecOk ts->zs=[])∧(SpecOk ts->zs=scanL lo hi (rd ts (ts.length+1) 0).1.slots)
end Go.Proofs.YtbfggcekifaldaaGreat
