import Derived.Test.YtkhglgalbifcnaaGreatTge
import Derived.Test.YtkhglgalbifcnaaGreatGAY
import Derived.Test.YtkhglgalbifcnaaGreatGAZ
import Derived.Test.YtkhglgalbifcnaaGreatGBA
import Derived.Test.YtkhglgalbifcnaaGreatGBB
import Derived.Laws.Tables
import Derived.Shelf.Spec.SlicesInsertGrow
import Derived.Deep.RegionLaw
import Derived.Laws.AppendOwn
import Derived.ArgAppend
namespace Go.Proofs.YtkhglgalbifcnaaGreat
open Go.RowKit
set_option linter.unusedVariables false
set_option linter.unusedSimpArgs false
set_option maxRecDepth 100000
def wayT (d:T):T:=if d.leaf=false∧d.kids.length=1 then d.kids.headD leafT else d
def rootD (key:ByteArray) (t:T):T:=wayT (delT key t)
theorem grK_all {ts:List TN} {f:Nat} {Φ:T->Prop} {p:Int} {keys:List ByteArray} (hf:∀ nx met t nx' met',gr ts f nx met=some (t,nx',met')->Φ t):∀ (ks:List Int) (acc:List T) (nx:Nat) (met:Int->Bool) (ys:List T) (nx':Nat) (met':Int->Bool),grK p keys (gr ts f) ks acc nx met=some (ys,nx',met')->(∀ z ∈ acc,Φ z)->∀ z ∈ ys,Φ z
 | [],acc,nx,met,ys,nx',met',h,ha=>by
  simp[grK] at h
  obtain⟨rfl,rfl,rfl⟩:=h
  exact ha
 | k::ks,acc,nx,met,ys,nx',met',h,ha=>by
  unfold grK at h
  split at h
  ·rename_i hk
   split at h
   ·cases h
   ·rename_i t nx1 m1 hone
    split at h
    ·exact grK_all hf ks (acc++[t]) nx1 m1 ys nx' met' h (fun z hz=>by
      rcases List.mem_append.1 hz with hz | hz
      ·exact ha z hz
      ·simp at hz;subst hz;exact hf _ _ _ _ _ hone)
    ·cases h
  ·cases h
theorem gr_neat (ts:List TN):∀ (f nx:Nat) (met:Int->Bool) (t:T) (nx':Nat) (met':Int->Bool),gr ts f nx met=some (t,nx',met')->(∃ r,t.good r=true)->Neat t
 | 0,nx,met,t,nx',met',h,_=>by simp[gr] at h
 | f+1,nx,met,t,nx',met',h,hg=>by
  unfold gr at h
  split at h
  ·cases h
  ·split at h
   ·cases h
   ·split at h
    ·split at h
     ·cases h
     ·split at h
      ·cases h
      ·simp only[Option.some.injEq,Prod.mk.injEq] at h
       obtain⟨rfl,_,_⟩:=h
       rw[neat_eq]
       exact⟨fun _=>rfl,(fun e=>by cases e),(fun z hz=>by cases hz)⟩
    ·split at h
     ·cases h
     ·split at h
      ·cases h
      ·rename_i ys nx1 m1 hgk
       simp only[Option.some.injEq,Prod.mk.injEq] at h
       obtain⟨rfl,_,_⟩:=h
       obtain⟨r,hg⟩:=hg
       have h2:=good_two hg rfl
       rw[neat_eq]
       refine⟨(fun e=>by cases e),fun _=>⟨rfl,rfl,rfl,fun e=>by have:=h2.1;simp only at e this;rw[e] at this;simp at this⟩,?_⟩
       have:=grK_all (Φ:=fun z=>(∃ r,z.good r=true)->Neat z) (fun nx met t nx' met' h hg=>gr_neat ts f nx met t nx' met' h hg) _ _ _ _ _ _ _ hgk (fun z hz=>by cases hz)
       exact fun z hz=>this z hz ⟨false,good_kid hg hz⟩
def HasK (key:ByteArray) (zs:List (ByteArray × ByteArray × Int)):Prop:=∃ s ∈ zs,s.1=key
def DelAns (w:World) (P:Nat->Prop) (key:ByteArray) (t:T) (u:Value) (e:Ending) (w':World):Prop :=
 (e=.returned (.bool true)∧HasK key t.slots∧(∃ P':Nat->Prop,GM w' P' (delT key t) u∧∀ b,P' b->(P b∨w.heap.size<=b)∧b<w'.heap.size)∧Fr P w w') ∨
 (e=.returned (.bool false)∧¬ HasK key t.slots∧Below w.heap.size w w')
theorem src_own {w:World} {base e size n c:Nat} {a:Option Addr} {xs:List Value} (h:w.ownsRow base e size (.slice a n c) n xs) (h1:∀ u ∈ xs,u.oneCell'=true) (hn:n<=1048576):SrcAt w w.heap.size size n (.slice a n c) xs:=by
 refine⟨h.1,hn,h1,a,c,rfl,?_⟩
 rcases h.2 with ⟨e1,e2⟩ | ⟨g,cap,cur,e1,hg1,hg2,h3,h4,_⟩
 ·simp only[Value.slice.injEq] at e1
  obtain⟨rfl,rfl,rfl⟩:=e1
  have hx:xs=[]:=List.length_eq_zero_iff.1 (by rw[h.1];simp)
  subst hx
  exact⟨fun _=>rfl,fun h0=>absurd h0 (by simp),fun x hx=>by cases hx⟩
 ·simp only[Value.slice.injEq] at e1
  obtain⟨rfl,_,rfl⟩:=e1
  refine⟨(fun e=>by cases e),fun _=>⟨g,0,rfl⟩,fun x hx j u hj=>?_⟩
  cases hx
  have hlt:=h.lt g rfl
  have hjl:=(List.getElem?_eq_some_iff.1 hj).1
  have e:(⟨g,0,none⟩:Addr).add j=⟨g,j,none⟩:=by rw[addr_add,Nat.zero_add]
  rw[e]
  exact⟨hlt.2,by rw[h.cellAt j (by rw[<-h.1];exact hjl)];exact hj⟩
def JoinAns (w:World) (P1 P2:Nat->Prop) (t1 t2:T) (u:Value) (e:Ending) (w':World):Prop:=e=.returned (.tuple #[])∧(∃ P:Nat->Prop,GM w' P (glueT t1 t2) u∧∀ b,P b->(P1 b∨P2 b∨w.heap.size<=b)∧b<w'.heap.size)∧Fr P1 w w'
def giveB (ys:List T) (i:Int):Bool:=decide (0<=i∧i<ys.length∧2<(ys.getD i.toNat leafT).size)
def KidsAns (w:World) (P:Nat->Prop) (t:T) (L:Nat) (ys:List T) (e:Ending) (w':World):Prop:=e=.returned (.tuple #[])∧(∃ (P':Nat->Prop) (a:Option Addr) (n c:Nat) (ul:List Value) (Q:Nat->Nat->Prop),GMI w' P' { t with kids:=ys } L a n c ul Q∧∀ b,P' b->(P b∨w.heap.size<=b)∧b<w'.heap.size)∧Fr P w w'
def Lens (x:T):Prop:=(x.leaf=true->x.vals.length=x.keys.length∧x.over.length=x.keys.length∧x.kids=[])∧(x.leaf=false->x.keys=[]∧x.vals=[]∧x.over=[])
end Go.Proofs.YtkhglgalbifcnaaGreat
