import Derived.Test.YtggmghkcdfjdoaaGreatHMem
import Derived.Test.YtggmghkcdfjdoaaGreatChecked
import Derived.WalkKit
import Derived.ProofKit
import Derived.Deep.RegionHeld3
import Derived.Deep.QuietTactic
import Derived.Lib.AppendStr
import Derived.Laws.BitsAll
import Derived.Laws.IdiomStrings
namespace Go.Proofs.YtggmghkcdfjdoaaGreat
set_option maxHeartbeats 800000
open Go.RowKit Tryz
set_option linter.unusedVariables false
set_option linter.unusedSimpArgs false
set_option maxRecDepth 100000
variable {A B C:Nat} {w:World}
theorem cz (x a b:Int) (w:World) :
  Calls prog 18 #[.int .i64 x,.int .i64 a,.int .i64 b] w fun c d=>c=.returned (.bool (decide (a<=x∧x<=b)))∧d=w:=by
 by_cases e:a<=x
 ·go_enter func18,ntmps18;go_wp2
  go_ret;exact⟨by simp[e],rfl⟩
 ·have f:decide (a<=x)=false:=(by simp;omega);go_enter func18,ntmps18;go_wp2
  go_ret;exact⟨by simp,rfl⟩
theorem dz {base e size n c:Nat} {a:Option Addr} {g:List Value} (h:w.ownsRow base e size (.slice a n c) n g) (i:0<n):∃ b,a=some ⟨b,0,none⟩:=by
 rcases h.2 with ⟨d,f⟩ | ⟨b,j,k,d,_⟩;·omega
 ·injection d with f;exact⟨b,f⟩
def dk (w:World) (C A B:Nat):Prop :=
 B<=C∧∃ (a:Option Addr) (n c:Nat) (bs:List Int) (i:Nat) (h:Int),w.heap[C]?=some (.cells #[.slice a n c,.int .i64 i,.int .i64 h] 88)∧i<=n∧cd w A B a n c bs
theorem yu (y:Int):0<=bits .and .i64 y 255∧bits .and .i64 y 255<=255:=by
 have a:bits .and .i64 y 255=IntKind.i64.wrap ((BitVec.ofInt 64 y &&& BitVec.ofInt 64 255).toNat:Int):=rfl;have b:(BitVec.ofInt 64 y &&& BitVec.ofInt 64 255).toNat<=255:=by rw[BitVec.toNat_and];exact Eo Nat.and_le_right (by decide)
 rw[a,Fa];omega
theorem dI {N:Nat} {a b c:Value} {t:TypeId} (h:w.heap[N]?=some (.cells #[a,b,c] t)):w.cell? ⟨N,0,none⟩=some a∧w.cell? ⟨N,1,none⟩=some b∧w.cell? ⟨N,2,none⟩=some c:=by
 simp[World.cell?,h]
theorem m6 {M t:Nat} {cs:Array Value} (h:w.heap[M]?=some (.cells cs t)) (j:Nat):w.frozen? ⟨M,j,none⟩=false:=by simp[World.frozen?,h]
theorem jr (C A B:Nat) (w:World) (h:dk w C A B) (ah:B<=w.heap.size) :
  Calls prog 33 #[.pointer (some ⟨C,0,none⟩)] w fun X N=>∃ f:Nat,X=.returned (.int .i64 f)∧f<=255∧dk N C A B∧Fr (fun a=>a=C) w N:=by
 obtain⟨O,v,c,d,k,b,q,r,Y,x⟩:=h;have Z:=x.2.2.1;have ai:=x.2.1;unfold maxLen at Z;have aj:=Za r;obtain⟨g,i,j⟩:=dI r;have m:=m6 r;go_enter func33,ntmps33;go_wp2_with fail
 have n:(w.setCell ⟨C,2,none⟩ (.int .i64 (wrap64 (wrap64 (q*6364136223846793005)+1442695040888963407)))).heap[C]?=some (.cells #[.slice v c d,.int .i64 b,.int .i64 (wrap64 (wrap64 (q*6364136223846793005)+1442695040888963407))] 88):=by simp[World.setCell,Array.getElem?_modify,r]
 have y:Fr (fun a=>a=C) w (w.setCell ⟨C,2,none⟩ (.int .i64 (wrap64 (wrap64 (q*6364136223846793005)+1442695040888963407)))):=⟨rfl,rfl,rfl,by simp[World.setCell],fun l _ H=>Below.heap_setCell w _ _ l H⟩;generalize w.setCell ⟨C,2,none⟩ (.int .i64 (wrap64 (wrap64 (q*6364136223846793005)+1442695040888963407)))=z at n y ⊢;generalize wrap64 (wrap64 (q*6364136223846793005)+1442695040888963407)=e at n;have P:=x.keep (fun l aa ab=>y.block l (by omega) (by omega));clear g i j m x r;obtain⟨g,i,j⟩:=dI n;have m:=m6 n;go_quiet (fail)
 have ac:=yu (bits .xor .i64 (e / 8589934592) (e / 35184372088832));generalize bits .and .i64 (bits .xor .i64 (e / 8589934592) (e / 35184372088832)) 255=Q at ac ⊢;obtain⟨f,rfl⟩:∃ f:Nat,Q=(f:Int):=⟨Q.toNat,by omega⟩;have o:(z.drewN nq).heap[C]?=some (.cells #[.slice v c d,.int .i64 b,.int .i64 e] 88):=n;have s:cd (z.drewN nq) A B v c d k:=P;have t:Fr (fun a=>a=C) w (z.drewN nq):=y.trans (Fr.of_below ⟨rfl,rfl,rfl,Ek _,fun _ _=>rfl⟩);generalize z.drewN nq=u at o s t ⊢;clear g i j m n P y;obtain⟨g,i,j⟩:=dI o;have m:=m6 o;have ak:=t.size;by_cases ad:b<c
 ·obtain⟨a,p,rfl,al,R⟩:=s.2.2.2.2.1 (by omega);have am:a≠C:=(by omega);have S:=R b ad;clear R;go_wp2_with fail
  go_quiet (fail)
  have D:(u.drewN nq).heap[C]?=some (.cells #[.slice (some ⟨a,p,none⟩) c d,.int .i64 b,.int .i64 e] 88):=o;have I:cd (u.drewN nq) A B (some ⟨a,p,none⟩) c d k:=s;have J:Fr (fun a=>a=C) w (u.drewN nq):=t.trans (Fr.of_below ⟨rfl,rfl,rfl,Ek _,fun _ _=>rfl⟩);have K:(u.drewN nq).cell? ⟨a,p+b,none⟩=some (.int .u8 (k.getD b 0)):=S;generalize u.drewN nq=E at D I J K ⊢;clear g i j m o s t S;obtain⟨g,i,j⟩:=dI D;generalize k.getD b 0=T at K;go_wp2_with fail
  go_quiet (fail)
  have ae:=yu (wrap64 ((f:Int)+wrap64 T));generalize bits .and .i64 (wrap64 ((f:Int)+wrap64 T)) 255=U at ae ⊢;obtain⟨L,rfl⟩:∃ L:Nat,U=(L:Int):=⟨U.toNat,by omega⟩;have F:(E.drewN nq).heap[C]?=some (.cells #[.slice (some ⟨a,p,none⟩) c d,.int .i64 b,.int .i64 e] 88):=D;have V:cd (E.drewN nq) A B (some ⟨a,p,none⟩) c d k:=I;have M:Fr (fun a=>a=C) w (E.drewN nq):=J.trans (Fr.of_below ⟨rfl,rfl,rfl,Ek _,fun _ _=>rfl⟩);generalize E.drewN nq=G at F V M ⊢;have an:=M.size;clear g i j D I J K;obtain⟨g,i,j⟩:=dI F;have m:=m6 F;have af:(G.setCell ⟨C,1,none⟩ (.int .i64 ((b:Int)+1))).heap[C]?=some (.cells #[.slice (some ⟨a,p,none⟩) c d,.int .i64 ((b:Int)+1),.int .i64 e] 88):=(by simp[World.setCell,Array.getElem?_modify,F]);have W:Fr (fun a=>a=C) G (G.setCell ⟨C,1,none⟩ (.int .i64 ((b:Int)+1))):=⟨rfl,rfl,rfl,by simp[World.setCell],fun l _ H=>Below.heap_setCell G _ _ l H⟩;have ag:=V.keep (fun l aa ab=>W.block l (by omega) (by omega));go_wp2
  go_ret;exact⟨L,rfl,by omega,⟨O,_,c,d,k,b+1,e,af,by omega,ag⟩,M.trans W⟩
 ·go_wp2_with fail
  go_quiet (fail)
  go_wp2
  go_ret;exact⟨f,rfl,by omega,⟨O,v,c,d,k,b,e,o,Y,s⟩,t.trans (Fr.of_below ⟨rfl,rfl,rfl,Ek _,fun _ _=>rfl⟩)⟩
theorem zr (a:Option Addr) (n c:Nat) (bs:List Int) (w:World) (A B:Nat) (g:B<=w.heap.size) (h:cd w A B a n c bs) :
  Calls prog 11 #[.slice a n c] w fun l i=>∃ C,l=.returned (.pointer (some ⟨C,0,none⟩))∧w.heap.size<=C∧dk i C A B∧Below w.heap.size w i:=by
 have m:=h.2.2.1;have r:=h.2.1;have e:=h.2.2.2.2.1;unfold maxLen at m;go_enter func11,ntmps11;go_wp2
 go_loop [3,4] (fun o f=>∃ (b:Nat) (d:Int),b<=n∧f=.int .i64 b∧o=.int .i64 d) (fun _ f=>n - (intOf f).toNat)
 case atStart=>exact⟨0,_,En _,rfl,rfl⟩
 case round =>
  obtain⟨b,d,s,rfl,rfl⟩:=hrel;by_cases p:b<n
  ·obtain⟨t,u,rfl,v,j⟩:=e (by omega);have x:=j b p;clear e j;go_wp2
   go_round
   case rel=>exact⟨b+1,_,by omega,by go_num,rfl⟩
   case measure=>simp[intOf];omega
  ·clear e;have q:=Ej w (.cells #[.slice a n c,.int .i64 0,.int .i64 d] 88);have k:Below w.heap.size w (w.alloc (.cells #[.slice a n c,.int .i64 0,.int .i64 d] 88)):=Zb _ _;go_wp2
   go_ret;exact⟨w.heap.size,rfl,Ek _,⟨g,a,n,c,bs,0,d,q,En _,h.below (k.mono g)⟩,k⟩
theorem dk.below {w':World} (h:dk w C A B) (a:Below w.heap.size w w'):dk w' C A B:=by
 obtain⟨c,d,e,f,g,i,j,b,k,l⟩:=h;have m:=Za b;exact⟨c,d,e,f,g,i,j,(a.block C m).trans b,k,l.below (a.mono (by omega))⟩
theorem dk.lt (h:dk w C A B):C<w.heap.size:=by
 obtain⟨b,c,d,e,f,g,i,a,j,k⟩:=h;exact (Za a)
theorem dk.le (h:dk w C A B):B<=w.heap.size:=Nat.le_of_lt (Nat.lt_of_le_of_lt h.1 h.lt)
def Dw (C A B:Nat) (w w':World):Prop:=dk w' C A B∧Fr (fun g=>g=C) w w'
theorem bo (C A B:Nat) (w:World) (h:dk w C A B) (m:Int) (y:1<=m) (z:m<=4294967296) :
  Calls prog 15 #[.pointer (some ⟨C,0,none⟩),.int .i64 m] w fun c i=>∃ a:Nat,c=.returned (.int .i64 a)∧(a:Int)<m∧dk i C A B∧Fr (fun o=>o=C) w i:=by
 go_enter func15,ntmps15;have j:m≠0:=by omega
 by_cases D:m<=256
 ·go_wp2_with fail
  refine (jr C A B w h h.le).mono ?_;rintro c k ⟨a,rfl,p,q,r⟩;go_wp2
  obtain⟨b,e⟩:∃ b:Nat,(a:Int) % m=(b:Int):=⟨((a:Int) % m).toNat,(Int.toNat_of_nonneg (Int.emod_nonneg _ j)).symm⟩;have d:=Int.emod_lt_of_pos (a:Int) (show 0<m by omega);rw[e] at d ⊢;go_ret;exact⟨b,rfl,d,q,r⟩
 ·go_wp2_with fail
  refine (jr C A B w h h.le).mono ?_;rintro c k ⟨a,rfl,p,l,s⟩;go_wp2_with fail
  refine (jr C A B k l l.le).mono ?_;rintro c t ⟨f,rfl,E,n,u⟩;go_wp2_with fail
  refine (jr C A B t n n.le).mono ?_;rintro c F ⟨g,rfl,G,v,x⟩;go_wp2
  obtain⟨b,e⟩:∃ b:Nat,((a:Int)*65536+(f:Int)*256+(g:Int)) % m=(b:Int):=⟨(((a:Int)*65536+(f:Int)*256+(g:Int)) % m).toNat,(Int.toNat_of_nonneg (Int.emod_nonneg _ j)).symm⟩;have d:=Int.emod_lt_of_pos ((a:Int)*65536+(f:Int)*256+(g:Int)) (show 0<m by omega);rw[e] at d ⊢;go_ret;exact⟨b,rfl,d,v,(s.trans u).trans x⟩
theorem p9 (C A B:Nat) (w:World) (h:dk w C A B) (m:Int) (c:1<=m) (d:m<=4294967296) :
  Calls prog 31 #[.pointer (some ⟨C,0,none⟩),.int .i64 m] w fun a b=>∃ e:Bool,a=.returned (.bool e)∧dk b C A B∧Fr (fun f=>f=C) w b:=by
 go_enter func31,ntmps31;go_wp2_with fail
 refine (bo C A B w h m c d).mono ?_;rintro a j ⟨k,rfl,l,g,i⟩;go_wp2
 go_ret;exact⟨_,rfl,g,i⟩
def qS (s:ByteArray):List Int:=s.data.toList.map fun b=>(b.toNat:Int)
theorem AL (s:ByteArray):(qS s).length=s.size:=by simp[qS]
theorem zt (s:ByteArray):∀ a ∈ qS s,0<=a∧a<=255:=by
 intro a b;simp only[qS,EY] at b;obtain⟨c,_,rfl⟩:=b;have:=c.toNat_lt;omega
theorem AM (s:ByteArray):wm (qS s)=Lib.strCells s:=by simp[wm,qS,Lib.strCells]
theorem xp (a b:List Int):wm (a++b)=wm a++wm b:=by simp[wm]
theorem zu {ops:Array Oper} {rest:List Oper} {o:Oper} {a:Act} {Q:Exit->Act->World->Prop} (e:o.guard=none) (s x:Operand)
  (f:o.op=.call { callee:=.builtin .append,args:=#[s,x],argTypes:=#[22,9] })
  (base:Nat) (v:Value) (n:Nat) (bs:List Int) (g:a.eval s=v) (i:w.ownsRow base 5 1 v n (wm bs))
  (t:ByteArray) (j:a.eval x=.string t) (y:n+t.size<=1073741824) (k:base<=w.heap.size)
  (h:∀ c b,b.ownsRow base 5 1 c (n+t.size) (wm (bs++qS t))->w.grownBy b v.ownBlock->wpList prog ops Q rest (a.put o.dst c) b):wpList prog ops Q (o::rest) a w:=by
 obtain⟨l,m,p,q,r⟩:=info_parts Be;refine Lib.wpList_append_own_string w e s x 22 9 f base 5 l underlying22 underlying9 m p q r v n (wm bs) g i t j (by unfold maxLen;omega) (by omega) k ?_;intro c b d u _;rw[<-AM,<-xp] at d;exact h c b d u
def AN (bs:List Int):ByteArray:=⟨(bs.map fun x=>UInt8.ofNat x.toNat).toArray⟩
theorem eE (bs:List Int):(AN bs).size=bs.length:=by simp[AN,ByteArray.size]
theorem gA {a:Option Addr} {n c:Nat} {bs:List Int} (h:cd w A B a n c bs):(convert 22 9 (.slice a n c)).run prog w=.ok (.string (AN bs)) w:=by
 obtain⟨f,v,x,k,g,l⟩:=h;rcases a with _ | a
 ·have m:n=0:=by
   by_cases o:n=0;·exact o
   ·obtain⟨_,_,e,_⟩:=g (by omega);cases e
  subst m;have p:=l rfl;subst p;have q:=E7 f;subst q;rw[run_convert_bytes_string (P:=prog) w _ _ 5 none 0 0 underlying22 underlying5 underlying9];rfl
 ·subst f;have e:=run_convert_bytes_back (P:=prog) w 22 9 5 a c (bs.map fun r=>UInt8.ofNat r.toNat) underlying22 underlying5 underlying9 ?_;·simpa[AN] using e
  ·intro b d;simp at d;obtain⟨i,j,s,y,t⟩:=g (by omega);cases s;have u:(⟨i,j,none⟩:Addr).add b=⟨i,j+b,none⟩:=(by simp[Addr.add]);rw[u,t b d];have z:=k (bs[b]) (E4 d);simp[List.getD,d,UInt8.toNat_ofNat'];omega
end Go.Proofs.YtggmghkcdfjdoaaGreat
