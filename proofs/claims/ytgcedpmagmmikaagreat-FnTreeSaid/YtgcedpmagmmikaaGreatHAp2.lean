import Derived.Test.YtgcedpmagmmikaaGreatHMem
import Derived.ArgAppend
import Derived.Test.YtgcedpmagmmikaaGreatChecked
import Derived.WalkKit
import Derived.ProofKit
import Derived.WalkSpells
import Derived.WalkLawsBesides
import Derived.Laws.IdiomStrings
import Derived.Deep.RegionHeld3
import Derived.Deep.QuietTactic
import Derived.Lib.AppendStr
import Derived.Laws.BitsAll
namespace Go.Proofs.YtgcedpmagmmikaaGreat
set_option maxHeartbeats 800000
open Go.RowKit Tryz
set_option linter.unusedVariables false
set_option linter.unusedSimpArgs false
set_option maxRecDepth 100000
variable {A B C n:Nat} {w:World}
theorem o7 {b a e size:Nat} {v:Value} {c:List Value} (h:w.ownsRow b e size v n c) (d:a<=b):w.ownsRow a e size v n c:=by
 refine⟨h.1,?_⟩;rcases h.2 with f | ⟨g,i,j,k,l,m⟩;·exact .inl f
 ·exact .inr ⟨g,i,j,k,DX d l,m⟩
theorem uy {w':World} {a:Option Nat} (h:w.grownBy w' none):w.grownBy w' a :=
 ⟨h.os,h.tape,h.output,h.size,fun b c _=>h.block b c (by simp)⟩
theorem dU {P:Program} (w:World) (base:Nat) (t ty e:TypeId) (i:TypeInfo) (z:Value) (size p:Nat) (ht:P.underlying t=some (.slice e)) (x:P.info? e=some i) (B:i.zero=some z)
  (y:i.size=size) (C:i.bytes=p) (D:z.cells.size=size) (E:0<size)
  (v:Value) (n:Nat) (l:List Value) (q:w.ownsRow base e size v n l)
  (a:Addr) (m c:Nat) (d:List Value) (r:d.length=m*size) (A:∀ s h,d[s]?=some h->w.cell? (a.add s)=some h) (F:∀ h ∈ d,h.oneCell'=true)
  (G:n+m<=maxLen) (H:(n+m)*p<=140737488355328) (I:base<=w.heap.size) :
  ∃ b f,(Builtin.append_ #[t,t] ty #[v,.slice (some a) m c]).run P w=.ok b f∧f.ownsRow base e size b (n+m) (l++d)∧w.grownBy f v.ownBlock ∧
   (b.ownBlock=v.ownBlock∨∀ j,b.ownBlock=some j->w.heap.size<=j):=by
 rcases q.2 with ⟨rfl,rfl⟩ | ⟨j,J,M,rfl,V,Q,W,X,R,Y⟩;·have S:l=[]:=ED (by simpa using q.1);subst S;obtain⟨b,f,o,k,u,_⟩:=run_append_own (P:=P) w w.heap.size t ty e i z size p ht x B y C D E _ 0 [] (EH w _ e size) a m c d r A F G H (DU _);exact⟨b,f,o,o7 k I,u,.inr fun K L=>(k.lt K L).1⟩
 ·by_cases N:n+m<=J;·obtain⟨b,f,o,k,u,_⟩:=run_append_own (P:=P) w base t ty e i z size p ht x B y C D E _ n l q a m c d r A F G H I;subst y;have T:n*i.size+d.length<=M.size:=(by rw[r,R,<-Nat.add_mul];exact Nat.mul_le_mul_right _ N);have O:=run_append_room (P:=P) w t ty e i ht x j n J M Q a m c d r A F N T;rw[o] at O;injection O with e1 e2;exact⟨b,f,o,k,u,.inl (by rw[e1];rfl)⟩
  ·have U:∀ s h,l[s]?=some h->w.cell? ((⟨j,0,none⟩:Addr).add s)=some h:=q.cells (g:=j) rfl;obtain⟨b,f,o,k,u⟩:=run_append_arg_grows (P:=P) w t ty e i z size p ht x B y C D E ⟨j,0,none⟩ n J l q.1 U a m c d r A (by omega) G H;exact⟨b,f,o,o7 k I,uy u,.inr fun K L=>(k.lt K L).1⟩
theorem ak {P:Program} (w:World) {ops:Array Oper} {rest:List Oper} {o:Oper} {a:Act} {Q:Exit->Act->World->Prop} (q:o.guard=none) (s x:Operand) (t:TypeId)
  (r:o.op=.call { callee:=.builtin .append,args:=#[s,x],argTypes:=#[t,t] })
  (base:Nat) (e:TypeId) (i:TypeInfo) (z:Value) (size k:Nat) (ht:P.underlying t=some (.slice e)) (y:P.info? e=some i) (A:i.zero=some z)
  (B:i.size=size) (C:i.bytes=k) (D:z.cells.size=size) (E:0<size)
  (v:Value) (n:Nat) (l:List Value) (F:a.eval s=v) (G:w.ownsRow base e size v n l)
  (p:Addr) (m c:Nat) (d:List Value) (H:a.eval x=.slice (some p) m c) (I:d.length=m*size) (J:∀ j u,d[j]?=some u->w.cell? (p.add j)=some u) (K:∀ u ∈ d,u.oneCell'=true)
  (L:n+m<=maxLen) (M:(n+m)*k<=140737488355328) (N:base<=w.heap.size)
  (h:∀ b f,f.ownsRow base e size b (n+m) (l++d)->w.grownBy f v.ownBlock->(b.ownBlock=v.ownBlock∨∀ g,b.ownBlock=some g->w.heap.size<=g)->wpList P ops Q rest (a.put o.dst b) f):wpList P ops Q (o::rest) a w:=by
 refine wpList_plain q fun _ O=>?_;obtain⟨b,f,R,S,T,U⟩:=dU (P:=P) w base t o.type e i z size k ht y A B C D E v n l G p m c d I J K L M N;unfold Oper.wp execOp;simp only[r,resolve,invoke,builtin,Sem.run_bind,Sem.run_pure,Result.andThen_ok,List.map_toArray,D8,Ez,F,H,R];exact O _ _ (h b f S T U)
theorem cz (x a b:Int) (w:World) :
  Calls prog 42 #[.int .i64 x,.int .i64 a,.int .i64 b] w fun c d=>c=.returned (.bool (decide (a<=x∧x<=b)))∧d=w:=by
 by_cases e:a<=x
 ·go_enter func42,ntmps42;go_wp2
  go_ret;exact⟨by simp[e],rfl⟩
 ·have f:decide (a<=x)=false:=(by simp;omega);go_enter func42,ntmps42;go_wp2
  go_ret;exact⟨by simp,rfl⟩
def CQ:Nat->Nat->List UInt8->List UInt8
 | 0,_,out=>out
 | f+1,k,out=>if k=0 then out else CQ f (k / 10) (UInt8.ofNat (48+k % 10)::out)
def Di (k:Nat):ByteArray:=if k=0 then ⟨#[109,48]⟩ else ⟨(109::CQ 40 k []).toArray⟩
def CR (k:Nat) (n:Nat):List Int:=(List.range n).map fun j=>((k+j:Nat):Int) % 256
def C8 (w w':World) (base:Nat) (v:Value) (n k:Nat):Prop:=w'.ownsRow base 5 1 v n (wm (CR k n))∧w.grownBy w' v.ownBlock
theorem dz {base e size c:Nat} {a:Option Addr} {g:List Value} (h:w.ownsRow base e size (.slice a n c) n g) (i:0<n):∃ b,a=some ⟨b,0,none⟩:=by
 rcases h.2 with ⟨d,f⟩ | ⟨b,j,k,d,_⟩;·omega
 ·injection d with f;exact⟨b,f⟩
def dk (w:World) (C A B:Nat):Prop :=
 B<=C∧∃ (a:Option Addr) (n c:Nat) (bs:List Int) (i:Nat) (h:Int),w.heap[C]?=some (.cells #[.slice a n c,.int .i64 i,.int .i64 h] 89)∧i<=n∧cd w A B a n c bs
theorem yu (y:Int):0<=bits .and .i64 y 255∧bits .and .i64 y 255<=255:=by
 have a:bits .and .i64 y 255=IntKind.i64.wrap ((BitVec.ofInt 64 y &&& BitVec.ofInt 64 255).toNat:Int):=rfl;have b:(BitVec.ofInt 64 y &&& BitVec.ofInt 64 255).toNat<=255:=by rw[BitVec.toNat_and];exact DX Nat.and_le_right (by decide)
 rw[a,EB];omega
theorem dI {N:Nat} {a b c:Value} {t:TypeId} (h:w.heap[N]?=some (.cells #[a,b,c] t)):w.cell? ⟨N,0,none⟩=some a∧w.cell? ⟨N,1,none⟩=some b∧w.cell? ⟨N,2,none⟩=some c:=by
 simp[World.cell?,h]
theorem m6 {M t:Nat} {cs:Array Value} (h:w.heap[M]?=some (.cells cs t)) (j:Nat):w.frozen? ⟨M,j,none⟩=false:=by simp[World.frozen?,h]
theorem jr (C A B:Nat) (w:World) (h:dk w C A B) (ah:B<=w.heap.size) :
  Calls prog 39 #[.pointer (some ⟨C,0,none⟩)] w fun X N=>∃ e:Nat,X=.returned (.int .i64 e)∧e<=255∧dk N C A B∧Fr (fun a=>a=C) w N:=by
 obtain⟨O,v,n,c,j,b,q,r,Y,x⟩:=h;have Z:=x.2.2.1;have ai:=x.2.1;unfold maxLen at Z;have aj:=Za r;obtain⟨f,g,i⟩:=dI r;have l:=m6 r;go_enter func39,ntmps39;go_wp2_with fail
 have m:(w.setCell ⟨C,2,none⟩ (.int .i64 (wrap64 (wrap64 (q*6364136223846793005)+1442695040888963407)))).heap[C]?=some (.cells #[.slice v n c,.int .i64 b,.int .i64 (wrap64 (wrap64 (q*6364136223846793005)+1442695040888963407))] 89):=by simp[World.setCell,Array.getElem?_modify,r]
 have y:Fr (fun a=>a=C) w (w.setCell ⟨C,2,none⟩ (.int .i64 (wrap64 (wrap64 (q*6364136223846793005)+1442695040888963407)))):=⟨rfl,rfl,rfl,by simp[World.setCell],fun k _ H=>Below.heap_setCell w _ _ k H⟩;generalize w.setCell ⟨C,2,none⟩ (.int .i64 (wrap64 (wrap64 (q*6364136223846793005)+1442695040888963407)))=z at m y ⊢;generalize wrap64 (wrap64 (q*6364136223846793005)+1442695040888963407)=d at m;have P:=x.keep (fun k aa ab=>y.block k (by omega) (by omega));clear f g i l x r;obtain⟨f,g,i⟩:=dI m;have l:=m6 m;go_quiet (fail)
 have ac:=yu (bits .xor .i64 (d / 8589934592) (d / 35184372088832));generalize bits .and .i64 (bits .xor .i64 (d / 8589934592) (d / 35184372088832)) 255=Q at ac ⊢;obtain⟨e,rfl⟩:∃ e:Nat,Q=(e:Int):=⟨Q.toNat,by omega⟩;have o:(z.drewN nq).heap[C]?=some (.cells #[.slice v n c,.int .i64 b,.int .i64 d] 89):=m;have s:cd (z.drewN nq) A B v n c j:=P;have t:Fr (fun a=>a=C) w (z.drewN nq):=y.trans (Fr.of_below ⟨rfl,rfl,rfl,DU _,fun _ _=>rfl⟩);generalize z.drewN nq=u at o s t ⊢;clear f g i l m P y;obtain⟨f,g,i⟩:=dI o;have l:=m6 o;have ak:=t.size;by_cases ad:b<n
 ·obtain⟨a,p,rfl,al,R⟩:=s.2.2.2.2.1 (by omega);have am:a≠C:=(by omega);have S:=R b ad;clear R;go_wp2_with fail
  go_quiet (fail)
  have D:(u.drewN nq).heap[C]?=some (.cells #[.slice (some ⟨a,p,none⟩) n c,.int .i64 b,.int .i64 d] 89):=o;have I:cd (u.drewN nq) A B (some ⟨a,p,none⟩) n c j:=s;have J:Fr (fun a=>a=C) w (u.drewN nq):=t.trans (Fr.of_below ⟨rfl,rfl,rfl,DU _,fun _ _=>rfl⟩);have K:(u.drewN nq).cell? ⟨a,p+b,none⟩=some (.int .u8 (j.getD b 0)):=S;generalize u.drewN nq=E at D I J K ⊢;clear f g i l o s t S;obtain⟨f,g,i⟩:=dI D;generalize j.getD b 0=T at K;go_wp2_with fail
  go_quiet (fail)
  have ae:=yu (wrap64 ((e:Int)+wrap64 T));generalize bits .and .i64 (wrap64 ((e:Int)+wrap64 T)) 255=U at ae ⊢;obtain⟨L,rfl⟩:∃ L:Nat,U=(L:Int):=⟨U.toNat,by omega⟩;have F:(E.drewN nq).heap[C]?=some (.cells #[.slice (some ⟨a,p,none⟩) n c,.int .i64 b,.int .i64 d] 89):=D;have V:cd (E.drewN nq) A B (some ⟨a,p,none⟩) n c j:=I;have M:Fr (fun a=>a=C) w (E.drewN nq):=J.trans (Fr.of_below ⟨rfl,rfl,rfl,DU _,fun _ _=>rfl⟩);generalize E.drewN nq=G at F V M ⊢;have an:=M.size;clear f g i D I J K;obtain⟨f,g,i⟩:=dI F;have l:=m6 F;have af:(G.setCell ⟨C,1,none⟩ (.int .i64 ((b:Int)+1))).heap[C]?=some (.cells #[.slice (some ⟨a,p,none⟩) n c,.int .i64 ((b:Int)+1),.int .i64 d] 89):=(by simp[World.setCell,Array.getElem?_modify,F]);have W:Fr (fun a=>a=C) G (G.setCell ⟨C,1,none⟩ (.int .i64 ((b:Int)+1))):=⟨rfl,rfl,rfl,by simp[World.setCell],fun k _ H=>Below.heap_setCell G _ _ k H⟩;have ag:=V.keep (fun k aa ab=>W.block k (by omega) (by omega));go_wp2
  go_ret;exact⟨L,rfl,by omega,⟨O,_,n,c,j,b+1,d,af,by omega,ag⟩,M.trans W⟩
 ·go_wp2_with fail
  go_quiet (fail)
  go_wp2
  go_ret;exact⟨e,rfl,by omega,⟨O,v,n,c,j,b,d,o,Y,s⟩,t.trans (Fr.of_below ⟨rfl,rfl,rfl,DU _,fun _ _=>rfl⟩)⟩
theorem zr (a:Option Addr) (n c:Nat) (bs:List Int) (w:World) (A B:Nat) (g:B<=w.heap.size) (h:cd w A B a n c bs) :
  Calls prog 16 #[.slice a n c] w fun l i=>∃ C,l=.returned (.pointer (some ⟨C,0,none⟩))∧w.heap.size<=C∧dk i C A B∧Below w.heap.size w i:=by
 have m:=h.2.2.1;have r:=h.2.1;have e:=h.2.2.2.2.1;unfold maxLen at m;go_enter func16,ntmps16;go_wp2
 go_loop [3,4] (fun o f=>∃ (b:Nat) (d:Int),b<=n∧f=.int .i64 b∧o=.int .i64 d) (fun _ f=>n - (intOf f).toNat)
 case atStart=>exact⟨0,_,D0 _,rfl,rfl⟩
 case round =>
  obtain⟨b,d,s,rfl,rfl⟩:=hrel;by_cases p:b<n
  ·obtain⟨t,u,rfl,v,j⟩:=e (by omega);have x:=j b p;clear e j;go_wp2
   go_round
   case rel=>exact⟨b+1,_,by omega,by go_num,rfl⟩
   case measure=>simp[intOf];omega
  ·clear e;have q:=DS w (.cells #[.slice a n c,.int .i64 0,.int .i64 d] 89);have k:Below w.heap.size w (w.alloc (.cells #[.slice a n c,.int .i64 0,.int .i64 d] 89)):=Zb _ _;go_wp2
   go_ret;exact⟨w.heap.size,rfl,DU _,⟨g,a,n,c,bs,0,d,q,D0 _,h.below (k.mono g)⟩,k⟩
theorem dk.below {w':World} (h:dk w C A B) (a:Below w.heap.size w w'):dk w' C A B:=by
 obtain⟨c,d,n,e,f,g,i,b,j,k⟩:=h;have l:=Za b;exact⟨c,d,n,e,f,g,i,(a.block C l).trans b,j,k.below (a.mono (by omega))⟩
theorem dk.lt (h:dk w C A B):C<w.heap.size:=by
 obtain⟨b,c,n,d,e,f,g,a,i,j⟩:=h;exact (Za a)
theorem dk.le (h:dk w C A B):B<=w.heap.size:=Nat.le_of_lt (Nat.lt_of_le_of_lt h.1 h.lt)
def Dw (C A B:Nat) (w w':World):Prop:=dk w' C A B∧Fr (fun g=>g=C) w w'
theorem bo (C A B:Nat) (w:World) (h:dk w C A B) (m:Int) (y:1<=m) (z:m<=4294967296) :
  Calls prog 20 #[.pointer (some ⟨C,0,none⟩),.int .i64 m] w fun c i=>∃ a:Nat,c=.returned (.int .i64 a)∧(a:Int)<m∧dk i C A B∧Fr (fun o=>o=C) w i:=by
 go_enter func20,ntmps20;have j:m≠0:=by omega
 by_cases D:m<=256
 ·go_wp2_with fail
  refine (jr C A B w h h.le).mono ?_;rintro c k ⟨a,rfl,p,q,r⟩;go_wp2
  obtain⟨b,e⟩:∃ b:Nat,(a:Int) % m=(b:Int):=⟨((a:Int) % m).toNat,(Int.toNat_of_nonneg (Int.emod_nonneg _ j)).symm⟩;have d:=Int.emod_lt_of_pos (a:Int) (show 0<m by omega);rw[e] at d ⊢;go_ret;exact⟨b,rfl,d,q,r⟩
 ·go_wp2_with fail
  refine (jr C A B w h h.le).mono ?_;rintro c k ⟨a,rfl,p,l,s⟩;go_wp2_with fail
  refine (jr C A B k l l.le).mono ?_;rintro c t ⟨f,rfl,E,n,u⟩;go_wp2_with fail
  refine (jr C A B t n n.le).mono ?_;rintro c F ⟨g,rfl,G,v,x⟩;go_wp2
  obtain⟨b,e⟩:∃ b:Nat,((a:Int)*65536+(f:Int)*256+(g:Int)) % m=(b:Int):=⟨(((a:Int)*65536+(f:Int)*256+(g:Int)) % m).toNat,(Int.toNat_of_nonneg (Int.emod_nonneg _ j)).symm⟩;have d:=Int.emod_lt_of_pos ((a:Int)*65536+(f:Int)*256+(g:Int)) (show 0<m by omega);rw[e] at d ⊢;go_ret;exact⟨b,rfl,d,v,(s.trans u).trans x⟩
theorem p9 (C A B:Nat) (w:World) (h:dk w C A B) (m:Int) (c:1<=m) (d:m<=4294967296) :
  Calls prog 37 #[.pointer (some ⟨C,0,none⟩),.int .i64 m] w fun a b=>∃ e:Bool,a=.returned (.bool e)∧dk b C A B∧Fr (fun f=>f=C) w b:=by
 go_enter func37,ntmps37;go_wp2_with fail
 refine (bo C A B w h m c d).mono ?_;rintro a j ⟨k,rfl,l,g,i⟩;go_wp2
 go_ret;exact⟨_,rfl,g,i⟩
def qS (s:ByteArray):List Int:=s.data.toList.map fun b=>(b.toNat:Int)
theorem AL (s:ByteArray):(qS s).length=s.size:=by simp[qS]
theorem zt (s:ByteArray):∀ a ∈ qS s,0<=a∧a<=255:=by
 intro a b;simp only[qS,Ew] at b;obtain⟨c,_,rfl⟩:=b;have:=c.toNat_lt;omega
theorem AM (s:ByteArray):wm (qS s)=Lib.strCells s:=by simp[wm,qS,Lib.strCells]
theorem xp (a b:List Int):wm (a++b)=wm a++wm b:=by simp[wm]
theorem zu {ops:Array Oper} {rest:List Oper} {o:Oper} {a:Act} {Q:Exit->Act->World->Prop} (e:o.guard=none) (s x:Operand)
  (f:o.op=.call { callee:=.builtin .append,args:=#[s,x],argTypes:=#[22,9] })
  (base:Nat) (v:Value) (n:Nat) (bs:List Int) (g:a.eval s=v) (i:w.ownsRow base 5 1 v n (wm bs))
  (t:ByteArray) (j:a.eval x=.string t) (y:n+t.size<=1073741824) (k:base<=w.heap.size)
  (h:∀ c b,b.ownsRow base 5 1 c (n+t.size) (wm (bs++qS t))->w.grownBy b v.ownBlock->wpList prog ops Q rest (a.put o.dst c) b):wpList prog ops Q (o::rest) a w:=by
 obtain⟨l,m,p,q,r⟩:=info_parts Be;refine Lib.wpList_append_own_string w e s x 22 9 f base 5 l underlying22 underlying9 m p q r v n (wm bs) g i t j (by unfold maxLen;omega) (by omega) k ?_;intro c b d u _;rw[<-AM,<-xp] at d;exact h c b d u
def AN (bs:List Int):ByteArray:=⟨(bs.map fun x=>UInt8.ofNat x.toNat).toArray⟩
theorem eE (bs:List Int):(AN bs).size=bs.length:=by simp[AN,ByteArray.size]
theorem gA {a:Option Addr} {c:Nat} {bs:List Int} (h:cd w A B a n c bs):(convert 22 9 (.slice a n c)).run prog w=.ok (.string (AN bs)) w:=by
 obtain⟨f,v,x,k,g,l⟩:=h;rcases a with _ | a
 ·have m:n=0:=by
   by_cases o:n=0;·exact o
   ·obtain⟨_,_,e,_⟩:=g (by omega);cases e
  subst m;have p:=l rfl;subst p;have q:=ED f;subst q;rw[run_convert_bytes_string (P:=prog) w _ _ 5 none 0 0 underlying22 underlying5 underlying9];rfl
 ·subst f;have e:=run_convert_bytes_back (P:=prog) w 22 9 5 a c (bs.map fun r=>UInt8.ofNat r.toNat) underlying22 underlying5 underlying9 ?_;·simpa[AN] using e
  ·intro b d;simp at d;obtain⟨i,j,s,y,t⟩:=g (by omega);cases s;have u:(⟨i,j,none⟩:Addr).add b=⟨i,j+b,none⟩:=(by simp[Addr.add]);rw[u,t b d];have z:=k (bs[b]) (Ey d);simp[List.getD,d,UInt8.toNat_ofNat'];omega
end Go.Proofs.YtgcedpmagmmikaaGreat
