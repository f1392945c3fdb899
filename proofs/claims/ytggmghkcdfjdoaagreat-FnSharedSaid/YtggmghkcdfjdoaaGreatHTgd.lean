import Derived.Test.YtggmghkcdfjdoaaGreatHTks
import Derived.Test.YtggmghkcdfjdoaaGreatHTgb
namespace Go.Proofs.YtggmghkcdfjdoaaGreat
open Go.RowKit Tryz
set_option linter.unusedVariables false
set_option linter.unusedSimpArgs false
set_option maxRecDepth 100000
def ws (acc:List T) (h:Int):Bool:=match acc with | []=>true | a::_=>a.ht == h
theorem uz (p:Int) (a:List T) (t:T):ju p a t=(decide (2<=t.size) && !(p != 0 && t.page == 0) && ws a t.ht):=by cases a<;>rfl
set_option maxHeartbeats 2000000 in
theorem uA (w:World) (C:Nat) (p:Int) (D:Option Addr) (d P:Nat) (ty:TypeId) (v:Value) (t:T) (e:List T) (u:w.heap[C]?=some (.cells #[.int .i64 p,.slice D d P] 83)) (i:e.length=d) (af:d<=4) (Q:t.size<=1000000) (R:CL w t ty v)
  (m:∀ c j,e=c::j->∃ n o q,D=some ⟨n,0,none⟩∧w.cell? ⟨n,0,none⟩=some (.iface o q)∧xF w o q "loop.example/s02098/impl.height" (.int .i64 c.ht)) :
  Calls prog 64 #[.pointer (some ⟨C,0,none⟩),.iface ty v] w fun h E=>h=.returned (.bool (ju p e t))∧E=w:=by
 obtain⟨⟨ag,ah,ai,aj,ak,F⟩,⟨al,am,an,ao,ap,G⟩,⟨aq,ar,av,aw,ax,H⟩,_⟩:=R;obtain⟨ay,az⟩:=au u;have aA:=Za u;have I:=hidI F;have r:=hidI G;have x:=hidI H;have a:=hidI (uz p e t);obtain⟨g,J⟩:=Zn (ju p e t);rw[J] at a ⊢;clear F G H u J;obtain⟨K,L⟩:=Zn t.size;obtain⟨M,N⟩:=Zn t.page;obtain⟨ht,O⟩:=Zn t.ht;rw[L] at I a Q;rw[N] at r a;rw[O] at x a;clear L N O;go_enter func64,ntmps64;go_wp2_with fail
 refine I.out.mono ?_;rintro h E ⟨rfl,rfl⟩;by_cases S:K<2
 ·have b:Hid (g=false):=(by show _=_;rw[a.out];simp;omega);clear a;go_wp2_with fail
  go_ret;exact⟨by rw[b.out];rfl,rfl⟩
 have U:decide (2<=K)=true:=by simpa using S
 rw[U,Bool.true_and] at a;by_cases y:p=0
 ·subst y;have f:Hid (g=ws e ht):=(by show _=_;rw[a.out];simp);clear a r;cases e with
  |nil=>
   have k:d=0:=(by simpa using i.symm);subst k;have b:Hid (g=true):=f.out;clear f;go_wp2_with fail
   go_ret;exact⟨by rw[b.out];rfl,rfl⟩
  |cons c j=>
   obtain⟨n,o,q,rfl,z,V,W,X,Y,Z,l⟩:=m c j rfl;have A:=hidI l;have b:Hid (g=(c.ht == ht)):=f.out;have k:0<d:=(by simp at i;omega);have aa:=aO z;clear f l m i;generalize c.ht=ab at *;have ac:((d:Int) == 0)=false:=(by simp;omega);go_wp2_with fail
   refine A.out.mono ?_;rintro h s ⟨rfl,rfl⟩;go_wp2_with fail
   refine x.out.mono ?_;rintro h s ⟨rfl,rfl⟩;go_wp2_with fail
   go_ret;exact⟨by rw[b.out];rfl,rfl⟩
 ·have ad:(p != 0)=true:=(by simpa using y);rw[ad,Bool.true_and] at a;clear y;go_wp2_with fail
  refine r.out.mono ?_;rintro h s ⟨rfl,rfl⟩;by_cases B:M=0
  ·subst B;have b:Hid (g=false):=(by show _=_;rw[a.out];simp);clear a;go_wp2_with fail
   go_ret;exact⟨by rw[b.out];rfl,rfl⟩
  ·have ae:(M == 0)=false:=(by simpa using B);rw[ae] at a;have f:Hid (g=ws e ht):=(by show _=_;rw[a.out];simp);clear a r B;cases e with
   |nil=>have k:d=0:=(by simpa using i.symm);subst k;have b:Hid (g=true):=f.out;clear f;(go_wp2_with fail);go_ret;exact⟨by rw[b.out];rfl,rfl⟩
   |cons c j=>obtain⟨n,o,q,rfl,z,V,W,X,Y,Z,l⟩:=m c j rfl;have A:=hidI l;have b:Hid (g=(c.ht == ht)):=f.out;have k:0<d:=(by simp at i;omega);have aa:=aO z;clear f l m i;generalize c.ht=ab at *;have ac:((d:Int) == 0)=false:=(by simp;omega);(go_wp2_with fail);refine A.out.mono ?_;rintro h s ⟨rfl,rfl⟩;(go_wp2_with fail);refine x.out.mono ?_;rintro h s ⟨rfl,rfl⟩;(go_wp2_with fail);go_ret;exact⟨by rw[b.out];rfl,rfl⟩
end Go.Proofs.YtggmghkcdfjdoaaGreat
