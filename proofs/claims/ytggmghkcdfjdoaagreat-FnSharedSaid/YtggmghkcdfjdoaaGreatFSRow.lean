import Derived.Test.YtggmghkcdfjdoaaGreatHFSL
import Derived.Test.YtggmghkcdfjdoaaGreatRows
import Derived.WalkKit
import Derived.ProofKit
import Derived.OpenShut
import Derived.ShutString
import Derived.ChangeOld
import Derived.Below
import Derived.Deep.Slices
namespace Go.Proofs.YtggmghkcdfjdoaaGreat
namespace SharedL
open Go.RowKit Go.Deep Go.ChangeShapes Go.WideShapes Go.ChangeAt
open Go.ChangeMaps (open_string shut_string)
set_option linter.unusedVariables false
set_option maxRecDepth 100000
section
variable {H:Type} {enc:TypeId × Value->H} {w:World} {spare:Nat->Bool} {held:Bool}
theorem cellsDU8:Tryz.prog.cellsOf 5=1:=by kernel_rfl
theorem bytesD_open {n:Nat} {cs:List Value} {x:DataW H × List MemPlace} (h:DataW.trod enc Tryz.prog w 0 spare held n 22 cs=some x):∃ a g i o,cs=[.slice a g i]∧cd w 0 w.heap.size a g i o:=by
 rcases open_ints Tryz.underlying22 Tryz.underlying5 cellsDU8 h with ⟨rfl,_⟩ | ⟨a,b,p,j,rfl,_,q,r,s,_,k,t⟩;·exact⟨none,0,0,[],rfl,rfl,Nat.le_refl _,Nat.zero_le _,(fun x c=>by cases c),fun h=>absurd h (Nat.lt_irrefl _),fun _=>rfl⟩
 ·have A:b<=j.length:=(by rw[s];split<;>omega);refine⟨some a,b,p,j.take b,rfl,by simp;omega,q,r,fun x c=>?_,fun B=>?_,fun h=>by cases h⟩;·exact bounds_u8 (t x (List.mem_of_mem_take c))
  ·obtain⟨d,e,u⟩:=a;have l:=k 0 (by omega);have v:u=none:=(by simpa[Addr.add] using World.cell?_spot l);subst v;have y:=wl (by simpa[Addr.add] using l);refine⟨d,e,rfl,⟨Nat.zero_le _,y⟩,fun f z=>?_⟩;have m:=k f (by omega);rw[show (⟨d,e,none⟩:Addr).add f=⟨d,e+f,none⟩ by simp[Addr.add]] at m;rw[m]
   congr 2
   simp[List.getD,z]
end
theorem own:ownKnob Tryz.prog.godebug=none:=by kernel_rfl
theorem laidOut:laidOutB Tryz.prog=true:=by kernel_rfl
set_option maxRecDepth 100000 in
theorem lifted (h:Os) (x:h.Started) (H:Type) (enc:TypeId × Value->H) :
  ReturnsInHanded {} Tryz.checked h 3 .any (Rows.fnSharedSpec.pre6 enc Tryz.prog Tryz.f3 Rows.fnSharedRow.domain false) (Rows.fnSharedSpec.post enc Tryz.prog Tryz.f3 false true false false):=by
 refine returnsInHanded_of_change (C:=Tryz.checked) own x (by kernel_rfl) Tryz.func3
  (ChangeSpec.witness6 (enc:=enc) (C:=Tryz.checked) false ⟨#[],#[.slice none 0 0,.slice none 0 0],[]⟩ 8 (by kernel_rfl) (by kernel_rfl) (by kernel_rfl) (by kernel_rfl)) ?_
 intro a y b z Z aa i j ab _;have c:∀ (k:Nat) l m,Tryz.f3.params[k]?=some l->b[k]?=some m->Value.okWide Tryz.prog a .any y l m:=i;have A:=j;obtain⟨B,ac,n,D,rfl,ad,ae⟩:=j;have o:DataW.TrodAll enc Tryz.prog a 0 (fun _=>true) true Tryz.f3.params.toList b.toList z B:=n;rw[Tryz.params3] at o c;obtain⟨p,af,ag,ah,E,ai,aj,rfl,rfl,q,F⟩:=trodAll_cons o;obtain⟨r,ak,al,am,G,q1,rfl,rfl,rfl,s,I⟩:=trodAll_cons F;obtain⟨rfl,rfl,rfl⟩:=trodAll_nil I;obtain rfl:b=#[p,r]:=by cases b;simp_all
 obtain⟨rfl,rfl⟩:=trodVars_none D;have t:=q;have u:=s;have J:∀ d ∈ E,d.block<a.heap.size:=by obtain⟨e,f⟩:=t;exact DataW.trod_lt e _ _ _ f
 have K:∀ d ∈ G,d.block<a.heap.size:=by obtain⟨e,f⟩:=u;exact DataW.trod_lt e _ _ _ f
 obtain⟨L,M,N,rfl⟩:=okWide_slice Tryz.underlying22 (c 0 22 p rfl rfl);obtain⟨O,P,Q,rfl⟩:=okWide_slice Tryz.underlying22 (c 1 22 r rfl rfl);obtain⟨an,R⟩:=q;obtain⟨ao,ap,aq,S,v,T⟩:=bytesD_open R;simp only[Value.cells,List.cons.injEq,Value.slice.injEq,and_true] at v;obtain⟨rfl,rfl,rfl⟩:=v;obtain⟨ar,U⟩:=s;obtain⟨au,av,aw,V,w,W⟩:=bytesD_open U;simp only[Value.cells,List.cons.injEq,Value.slice.injEq,and_true] at w;obtain⟨rfl,rfl,rfl⟩:=w;clear n i;refine (DU L M N S O P Q V a T W).mono fun ax ay ⟨X,g⟩=>?_;subst X;exact⟨_,rfl,_,_,_,[],_,[],A,trodAll_mk1 (shut_bool Tryz.underlying4 _),(trodAll_cons_mk (Below.trod laidOut (by kernel_rfl) (of_decide_eq_true (by kernel_rfl)) t g J) (trodAll_cons_mk (Below.trod laidOut (by kernel_rfl) (of_decide_eq_true (by kernel_rfl)) u g K) trodAll_mk0)),rfl,g.frame _,fun Y=>by cases Y⟩
theorem over:Rows.fnSharedRow.holds Tryz.pinned (OpenSpec.ofChange Rows.fnSharedSpec) :=
 OpenClaim.holds_of_wide 3 Tryz.f3 rfl rfl rfl rfl rfl rfl rfl ⟨rfl,rfl,rfl,rfl,rfl⟩ rfl rfl rfl rfl rfl (by kernel_rfl) Tryz.func3 (by kernel_rfl)
  (of_decide_eq_true (by kernel_rfl)) (by unfold Func.isWrapper;first | (rw[if_pos (by decide +kernel)];kernel_rfl) | (rw[if_neg (by decide +kernel)];exact⟨rfl,rfl⟩))
  (fun a b H enc _=>lifted a b H enc)
end SharedL
theorem shared_holds:Rows.FnSharedSaid:=SharedL.over
#print axioms shared_holds
end Go.Proofs.YtggmghkcdfjdoaaGreat
