import Derived.Test.YtggmghkcdfjdoaaGreatHTks
import Derived.Test.YtggmghkcdfjdoaaGreatHMem
import Derived.Test.YtggmghkcdfjdoaaGreatHTga
import Derived.Deep.RegionHeld3
import Derived.Deep.DeepCutAuto
import Derived.Deep.QuietTactic
namespace Go.Proofs.YtggmghkcdfjdoaaGreat
set_option maxHeartbeats 8000000
open Go.RowKit Tryz
set_option linter.unusedVariables false
set_option linter.unusedSimpArgs false
set_option maxRecDepth 100000
variable {G L N c n nx rc:Nat} {P:Nat->Prop} {a ra:Option Addr} {fb:Array Value} {met:Int->Bool} {p:Int} {t:T} {u:Value} {w w' wr:World} {zs:List (ByteArray × ByteArray × Int)}
structure eN (w:World) (G:Nat) (a:Option Addr) (n c:Nat) (nx:Nat) (met:Int->Bool):Prop where
 box:∃ cs:Array Value,w.heap[G]?=some (.cells cs 116)∧cs.size=1002∧cs[0]?=some (.slice a n c)∧cs[1]?=some (.int .i64 nx)∧∀ k:Nat,k<1000->cs[2+k]?=some (.bool (met k))
theorem eN.lt (h:eN w G a n c nx met):G<w.heap.size:=by
 obtain⟨b,h,_⟩:=h.box;exact (Za h)
theorem eN.keep (h:eN w G a n c nx met) (b:w'.heap[G]?=w.heap[G]?):eN w' G a n c nx met:=by
 obtain⟨d,h,e⟩:=h.box;exact⟨d,b.trans h,e⟩
theorem eN.c0 (h:eN w G a n c nx met):w.cell? ⟨G,0,none⟩=some (.slice a n c):=by
 obtain⟨d,h,e,b,f,g⟩:=h.box;simp[World.cell?,h,b]
theorem eN.c1 (h:eN w G a n c nx met):w.cell? ⟨G,1,none⟩=some (.int .i64 nx):=by
 obtain⟨d,h,e,f,b,g⟩:=h.box;simp[World.cell?,h,b]
theorem eN.ck (h:eN w G a n c nx met) {k:Nat} (b:k<1000):w.cell? ⟨G,2+k,none⟩=some (.bool (met k)):=by
 obtain⟨e,h,f,g,i,d⟩:=h.box;simp[World.cell?,h,d k b]
theorem eN.thaw (h:eN w G a n c nx met):∀ b,w.frozen? ⟨G,b,none⟩=false:=by
 obtain⟨d,h,_⟩:=h.box;exact ar h
theorem eN.step (h:eN w G a n c nx met) (m:Nat):eN (w.setCell ⟨G,1,none⟩ (.int .i64 m)) G a n c m met:=by
 obtain⟨b,h,d,e,j,f⟩:=h.box;refine⟨b.setIfInBounds 1 (.int .i64 m),aj h 1 _,by simpa using d,?_,?_,fun g i=>?_⟩;·rw[Fd (by omega)];exact e
 ·rw[Array.getElem?_setIfInBounds_self_of_lt (by omega)]
 ·rw[Fd (by omega)];exact f g i
theorem eN.mark (h:eN w G a n c nx met) {x:Nat} (m:x<1000):eN (w.setCell ⟨G,2+x,none⟩ (.bool true)) G a n c nx (fun d=>met d || d == (x:Int)):=by
 obtain⟨e,h,f,g,i,j⟩:=h.box;refine⟨e.setIfInBounds (2+x) (.bool true),aj h (2+x) _,by simpa using f,?_,?_,fun b k=>?_⟩;·rw[Fd (by omega)];exact g
 ·rw[Fd (by omega)];exact i
 ·by_cases l:x=b;·subst l;rw[Array.getElem?_setIfInBounds_self_of_lt (by omega)];simp
  ·rw[Fd (by omega),j b k];have:((b:Int) == (x:Int))=false:=(by simp;omega);simp[this]
theorem jc (w:World):Calls prog 61 #[] w fun a w'=>a=.returned (.agg #[.int .i64 2,.int .i64 999])∧Below w.heap.size w w':=by
 go_enter func61,ntmps61;go_wp2
 exact bodyPost_ret (v:=.agg #[.int .i64 2,.int .i64 999]) (by simp[results,results61,go_sem]) rfl ⟨rfl,Zb _ _⟩
theorem uw (x:Int) (w:World):Calls prog 62 #[.agg #[.int .i64 2,.int .i64 999],.int .i64 x] w fun c w'=>c=.returned (.bool (ir x))∧Below w.heap.size w w':=by
 have b:=Zb w (.cells #[.int .i64 2,.int .i64 999] 136);by_cases d:2<=x
 ·by_cases e:x<=999
  ·have a:Hid (ir x=true):=(by show _=_;simp[ir];omega);go_enter func62,ntmps62;go_wp2
   go_ret;exact⟨by rw[a.out];rfl,b⟩
  ·have a:Hid (ir x=false):=(by show _=_;simp[ir];omega);go_enter func62,ntmps62;go_wp2
   go_ret;exact⟨by rw[a.out];rfl,b⟩
 ·have a:Hid (ir x=false):=(by show _=_;simp[ir];omega);go_enter func62,ntmps62;go_wp2
  go_ret;exact⟨by rw[a.out];rfl,b⟩
def xH (w:World) (G:Nat) (a:Option Addr) (n c nx:Nat) (met:Int->Bool) (x:Int) (e:Ending) (w':World):Prop :=
 ∃ r,e=.returned (.bool r)∧(r=true->∃ m,eT met x=some m∧eN w' G a n c nx m)∧(r=false->eT met x=none)∧Fr (fun k=>k=G) w w'
theorem ux (w:World) (G:Nat) (a:Option Addr) (n c nx:Nat) (met:Int->Bool) (x:Int) (h:eN w G a n c nx met):Calls prog 56 #[.pointer (some ⟨G,0,none⟩),.int .i64 x] w fun g w'=>xH w G a n c nx met x g w':=by
 by_cases i:x=0
 ·subst i;have z:Hid (xH w G a n c nx met 0 (.returned (.bool true)) w):=⟨true,rfl,fun _=>⟨met,by simp[eT],h⟩,(fun h=>by cases h),Fr.refl _ _⟩;clear h;go_enter func56,ntmps56;go_wp2
  go_ret;exact z.out
 ·have E:(x == 0)=false:=(by simpa using i);cases d:ir x
  ·have m:Hid (eT met x=none):=(by show _=_;simp[eT,i,d]);have j:=uw x;rw[d] at j;have p:Hid _:=j;clear j d h i;go_enter func56,ntmps56;go_wp2_with fail
   refine (jc w).mono ?_;rintro g o ⟨rfl,b⟩;go_wp2_with fail
   refine (p.out o).mono ?_;rintro g r ⟨rfl,k⟩;have l:=b.trans (k.mono b.size);go_wp2_with fail
   go_ret;exact⟨false,rfl,(fun h=>by cases h),fun _=>m.out,Fr.of_below l⟩
  ·have F:2<=x∧x<=999:=(by simpa[ir] using d);have j:=uw x;rw[d] at j;have p:Hid _:=j;clear j;obtain⟨f,rfl⟩:∃ f:Nat,x=(f:Int):=⟨x.toNat,by omega⟩;have s:f<1000:=(by omega);have u:=hidI h;have v:=h.lt;cases q:met f;·have m:Hid (eT met f=some (fun y=>met y || y == (f:Int))):=(by show _=_;simp only[eT,if_neg i,d,q];rfl);clear d h i;go_enter func56,ntmps56;(go_wp2_with fail);refine (jc w).mono ?_;rintro g o ⟨rfl,b⟩;(go_wp2_with fail);refine (p.out o).mono ?_;rintro g r ⟨rfl,k⟩;have l:=b.trans (k.mono b.size);have e:=u.out.keep (l.block G v);have t:=e.ck s;rw[q] at t;have H:=e.thaw;have A:=e.lt;have B:=e.mark s;have C:=(Fr.of_below (S:=fun D=>D=G) l).trans (af r G (2+f) (.bool true));clear e b k;(go_wp2_with fail);go_ret;exact⟨true,rfl,fun _=>⟨_,m.out,B⟩,(fun h=>by cases h),C⟩
   ·have m:Hid (eT met f=none):=(by show _=_;simp[eT,d,q];omega);clear d h i;go_enter func56,ntmps56;(go_wp2_with fail);refine (jc w).mono ?_;rintro g o ⟨rfl,b⟩;(go_wp2_with fail);refine (p.out o).mono ?_;rintro g r ⟨rfl,k⟩;have l:=b.trans (k.mono b.size);have e:=u.out.keep (l.block G v);have t:=e.ck s;rw[q] at t;have A:=e.lt;clear e b k;(go_wp2_with fail);go_ret;exact⟨false,rfl,(fun h=>by cases h),fun _=>m.out,Fr.of_below l⟩
theorem ss (k v:ByteArray) (o p:Int) (e:v.size<=maxLen) (w:World):Calls prog 63 #[.agg #[.string k,.string v,.int .i64 o],.int .i64 p] w fun f w'=>f=.returned (.bool (lI p v o))∧Below w.heap.size w w':=by
 have g:=Zb w (.cells #[.string k,.string v,.int .i64 o] 75);unfold maxLen at e;by_cases a:v.size<=8
 focus have b:Hid (lI p v o=(o == 0)):=by show _=_;simp[lI,a]
 rotate_left
 focus by_cases d:v.size<=400
 focus by_cases c:p=0
 focus
   subst c;have b:Hid (lI 0 v o=true):=by show _=_;simp[lI,a,d]
 rotate_left
 focus
   have h:(p == 0)=false:=(by simpa using c);have b:Hid (lI p v o=(o != 0)):=(by show _=_;simp[lI,a,d,c]);clear c
 rotate_left
 focus have b:Hid (lI p v o=false):=by show _=_;simp[lI,a,d]
 rotate_left
 all_goals
   go_enter func63,ntmps63;go_wp2
   go_ret;exact⟨by rw[b.out];rfl,g⟩
def GM (w:World) (P:Nat->Prop):T->Value->Prop
 | ⟨l,p,k,v,o,y⟩,u=>if l then ∃ (L:Nat) (a:Option Addr) (n c:Nat),u=.iface 123 (.pointer (some ⟨L,0,none⟩))∧P L∧w.heap[L]?=some (.cells #[.int .i64 p,.slice a n c] 125)∧w.ownsRow 0 75 3 (.slice a n c) n (aa aB (k.zip (v.zip o)))∧(∀ g,(Value.slice a n c).ownBlock=some g->P g∧g≠L)∧n=k.length
  else ∃ (L:Nat) (a:Option Addr) (n c:Nat) (ul:List Value) (Q:Nat->Nat->Prop),u=.iface 77 (.pointer (some ⟨L,0,none⟩))∧P L∧w.heap[L]?=some (.cells #[.int .i64 p,.slice a n c] 83)∧w.ownsRow 0 68 1 (.slice a n c) n ul∧(∀ g,(Value.slice a n c).ownBlock=some g->P g∧g≠L)∧n=y.length∧(∀ i j b,Q i b->Q j b->i=j)∧(∀ i b,Q i b->P b∧b≠L∧(Value.slice a n c).ownBlock≠some b)∧∀ i,∀ t ∈ y,y[i]?=some t->GM w (Q i) t (ul.getD i .nilIface)
structure su (w:World) (P:Nat->Prop) (t:T) (L:Nat) (a:Option Addr) (n c:Nat):Prop where
 at':P L
 box:w.heap[L]?=some (.cells #[.int .i64 t.page,.slice a n c] 125)
 row:w.ownsRow 0 75 3 (.slice a n c) n (aa aB (t.keys.zip (t.vals.zip t.over)))
 blk:∀ g,(Value.slice a n c).ownBlock=some g->P g∧g≠L
 len:n=t.keys.length
structure gC (w:World) (P:Nat->Prop) (t:T) (L:Nat) (a:Option Addr) (n c:Nat) (ul:List Value) (Q:Nat->Nat->Prop):Prop where
 at':P L
 box:w.heap[L]?=some (.cells #[.int .i64 t.page,.slice a n c] 83)
 row:w.ownsRow 0 68 1 (.slice a n c) n ul
 blk:∀ g,(Value.slice a n c).ownBlock=some g->P g∧g≠L
 len:n=t.kids.length
 dis:∀ i j b,Q i b->Q j b->i=j
 sub:∀ i b,Q i b->P b∧b≠L∧(Value.slice a n c).ownBlock≠some b
 kid:∀ i,∀ k ∈ t.kids,t.kids[i]?=some k->GM w (Q i) k (ul.getD i .nilIface)
theorem GM.leaf (h:GM w P t u) (b:t.leaf=true):∃ L a n c,u=.iface 123 (.pointer (some ⟨L,0,none⟩))∧su w P t L a n c:=by
 obtain⟨k,p,l,m,o,q⟩:=t;simp only at b;rw[GM.eq_def] at h;simp only[b,if_true] at h;obtain⟨L,a,n,c,d,e,f,g,i,j⟩:=h;exact⟨L,a,n,c,d,e,f,g,i,j⟩
theorem GM.inner (h:GM w P t u) (e:t.leaf=false):∃ L a n c b d,u=.iface 77 (.pointer (some ⟨L,0,none⟩))∧gC w P t L a n c b d:=by
 obtain⟨r,p,s,v,x,y⟩:=t;simp only at e;rw[GM.eq_def] at h;simp only[e,EC,EO] at h;obtain⟨L,a,n,c,b,d,f,g,i,j,k,l,m,o,q⟩:=h;exact⟨L,a,n,c,b,d,f,g,i,j,k,l,m,o,q⟩
theorem su.is (h:su w P t L a n c) (b:t.leaf=true):GM w P t (.iface 123 (.pointer (some ⟨L,0,none⟩))):=by
 obtain⟨d,p,e,f,g,i⟩:=t;simp only at b;rw[GM.eq_def];simp only[b,if_true];exact⟨L,a,n,c,rfl,h.at',h.box,h.row,h.blk,h.len⟩
theorem gC.is {ul:List Value} {Q:Nat->Nat->Prop} (h:gC w P t L a n c ul Q) (b:t.leaf=false):GM w P t (.iface 77 (.pointer (some ⟨L,0,none⟩))):=by
 obtain⟨d,p,e,f,g,i⟩:=t;simp only at b;rw[GM.eq_def];simp only[b,EC,EO];exact⟨L,a,n,c,ul,Q,rfl,h.at',h.box,h.row,h.blk,h.len,h.dis,h.sub,h.kid⟩
theorem aM {base e size:Nat} {v:Value} {b:List Value} (h:w.ownsRow base e size v n b) (d:∀ a,v.ownBlock=some a->w'.heap[a]?=w.heap[a]?):w'.ownsRow base e size v n b:=by
 refine⟨h.1,?_⟩;rcases h.2 with h | ⟨a,f,g,c,i,j,k⟩;·exact .inl h
 ·exact .inr ⟨a,f,g,c,i,(d a (by rw[c];rfl)).trans j,k⟩
theorem GM.keep:∀ (t:T) (P i:Nat->Prop) (u:Value),(∀ d,P d->w'.heap[d]?=w.heap[d]?)->(∀ d,P d->i d)->GM w P t u->GM w' i t u:=by
 intro t
 induction t using T.ind with
 |h t r=>
  intro P v u k l o;cases m:t.leaf;·obtain⟨L,a,n,c,x,i,rfl,b⟩:=o.inner m;exact gC.is (Q:=i) ⟨l L b.at',(k L b.at').trans b.box,aM b.row (fun e f=>k e (b.blk e f).1),fun e f=>⟨l e (b.blk e f).1,(b.blk e f).2⟩,b.len,b.dis,fun g d j=>⟨l d (b.sub g d j).1,(b.sub g d j).2⟩,fun g p q s=>r p q (i g) (i g) _ (fun d j=>k d (b.sub g d j).1) (fun _ j=>j) (b.kid g p q s)⟩ m
  ·obtain⟨L,a,n,c,rfl,b⟩:=o.leaf m;exact su.is ⟨l L b.at',(k L b.at').trans b.box,aM b.row (fun e f=>k e (b.blk e f).1),fun e f=>⟨l e (b.blk e f).1,(b.blk e f).2⟩,b.len⟩ m
theorem su.see (h:su w P t L a n c):gI w P t L a n c:=by
 have d:=h.row;have e:(t.keys.zip (t.vals.zip t.over)).length=n:=by have:=d.1;rw[ay uo] at this;omega
 refine⟨h.at',h.box,?_,h.len⟩;rcases d.2 with ⟨b,l⟩ | ⟨f,m,o,b,p,q,g,i,_⟩;·simp only[Value.slice.injEq] at b;obtain⟨_,r,s⟩:=b;exact⟨e,by omega,by omega,fun h=>by omega⟩
 ·simp only[Value.slice.injEq] at b;obtain⟨rfl,_,rfl⟩:=b;exact⟨e,g,i,fun u=>⟨f,rfl,(h.blk f rfl).1,fun j k=>d.cellAt j k⟩⟩
theorem GM.see:∀ (t:T) (P:Nat->Prop) (u:Value),GM w P t u->gf w P t u:=by
 intro t
 induction t using T.ind with
 |h t r=>
  intro P u k;cases f:t.leaf
  ·obtain⟨L,a,n,c,l,s,rfl,b⟩:=k.inner f;have g:=b.row;refine eM.is (us:=fun d=>l.getD d .nilIface) ⟨b.at',b.box,?_,?_,fun d i m o=>gf.keep (fun _ _=>rfl) (fun v x=>(b.sub d v x).1) i _ (r i m (s d) _ (b.kid d i m o))⟩ f
   ·rcases g.2 with ⟨e,y⟩ | ⟨j,z,A,e,B,C,p,q,_⟩;·simp only[Value.slice.injEq] at e;exact⟨b.len,by omega,by omega⟩
    ·simp only[Value.slice.injEq] at e;obtain⟨_,_,rfl⟩:=e;exact⟨b.len,p,q⟩
   ·intro D;rcases g.2 with ⟨e,y⟩ | ⟨j,z,A,e,B,C,p,q,_⟩;·omega
    ·simp only[Value.slice.injEq] at e;obtain⟨rfl,_,rfl⟩:=e;refine⟨j,rfl,(b.blk j rfl).1,fun d o=>?_⟩;rw[g.cellAt d (by omega)];have E:=g.1;simp[List.getD,show d<l.length by omega]
  ·obtain⟨L,a,n,c,rfl,b⟩:=k.leaf f;exact b.see.is f
theorem GM.drew (h:GM w P t u):GM w.drew P t u:=GM.keep (w:=w) (w':=w.drew) t P P u (fun _ _=>rfl) (fun _ h=>h) h
theorem GM.shape (h:GM w P t u):∃ a b,u=.iface a b:=(GM.see t P u h).shape
def iz (w:World) (G:Nat) (a:Option Addr) (n c:Nat) (res:Option (T × Nat × (Int->Bool))) (e:Ending) (w':World):Prop :=
 (res=none->e=.returned (.tuple #[.nilIface,.bool false]))∧(∀ t nx' met',res=some (t,nx',met')->∃ u,e=.returned (.tuple #[u,.bool true])∧GM w' (fun b=>w.heap.size<=b∧b<w'.heap.size) t u∧eN w' G a n c nx' met')∧Fr (fun k=>k=G) w w'
theorem iN:(prog.info? 75).map (fun a=>(a.zero,a.size,a.bytes))=some (some (.agg #[.string ByteArray.empty,.string ByteArray.empty,.int .i64 0]),3,40):=by kernel_rfl
theorem oJ (w:World) (a b c:Value) (t:TypeId):∀ e u,[a,b,c][e]?=some u->(w.alloc (.cells #[a,b,c] t)).cell? ((⟨w.heap.size,0,none⟩:Addr).add e)=some u:=by
 intro e u d
 match e,d with
 | 0,d=>simpa[Addr.add] using d
 | 1,d=>simpa[Addr.add] using d
 | 2,d=>simpa[Addr.add] using d
theorem li {P:Program} {ops:Array Oper} {o:Oper} {a:Act} {K:Act->World->Prop} {Q:Exit->Act->World->Prop} {E:Prop}
  (p:o.guard=none) (s x:Operand) (t:TypeId) (q:o.op=.call { callee:=.builtin .append,args:=#[s,x],argTypes:=#[t,t] })
  (base:Nat) (e:TypeId) (i:TypeInfo) (z:Value) (size f:Nat) (ht:P.underlying t=some (.slice e)) (r:P.info? e=some i) (y:i.zero=some z)
  (A:i.size=size) (B:i.bytes=f) (C:z.cells.size=size) (D:0<size)
  (v:Value) (n:Nat) (k:List Value) (F:a.eval s=v) (G:w.ownsRow base e size v n k)
  (l:Addr) (m c:Nat) (d:List Value) (H:a.eval x=.slice (some l) m c) (I:d.length=m*size) (J:∀ j u,d[j]?=some u->w.cell? (l.add j)=some u) (L:∀ u ∈ d,u.oneCell'=true)
  (M:n+m<=maxLen) (N:(n+m)*f<=140737488355328) (O:base<=w.heap.size)
  (h:∀ b w',w'.ownsRow base e size b (n+m) (k++d)->w.grownBy w' v.ownBlock->(b.ownBlock=v.ownBlock∨∀ g,b.ownBlock=some g->w.heap.size<=g)->K (a.put o.dst b) w') :
  if Region.wanted o (yielded ops a.tmps)=true then Oper.wp P o a w K Q else E:=by
 rw[if_pos (by simp[Region.wanted,p])];obtain⟨b,w',R,S,T,U⟩:=dU (P:=P) w base t o.type e i z size f ht r y A B C D v n k G l m c d I J L M N O;unfold Oper.wp execOp;simp only[q,resolve,invoke,builtin,Sem.run_bind,Sem.run_pure,Result.andThen_ok,List.map_toArray,Ex,E6,F,H,R];exact h b w' S T U
structure wo (w wr:World) (N G:Nat) (fb:Array Value) (p:Int) (a:Option Addr) (n c nx:Nat) (met:Int->Bool) (ra:Option Addr) (rc:Nat) (zs:List (ByteArray × ByteArray × Int)):Prop where
 sz:w.heap.size=N
 fb:wr.heap[N]?=some (.cells fb 44)
 lb:wr.heap[N+1]?=some (.cells #[.int .i64 p,.slice ra zs.length rc] 125)
 gr:eN wr G a n c nx met
 row:wr.ownsRow (N+2) 75 3 (.slice ra zs.length rc) zs.length (aa aB zs)
 fr:Fr (fun k=>k=G) w wr
 glt:G<N
theorem wo.lt (h:wo w wr N G fb p a n c nx met ra rc zs):N+1<wr.heap.size:=Za h.lb
theorem wo.go {d:World} {e:Int->Bool} (h:wo w wr N G fb p a n c nx met ra rc zs) (b:Fr (fun k=>k=G) wr d) (f:eN d G a n c nx e):wo w d N G fb p a n c nx e ra rc zs:=by
 have j:=h.lt;have l:=h.glt;exact⟨h.sz,(b.block N (by omega) (by omega)).trans h.fb,(b.block (N+1) (by omega) (by omega)).trans h.lb,f,am h.row b (fun g i m=>by have:=(h.row.lt g i).1;omega),h.fr.trans b,h.glt⟩
theorem wo.below {b:World} (h:wo w wr N G fb p a n c nx met ra rc zs) (d:Below wr.heap.size wr b):wo w b N G fb p a n c nx met ra rc zs :=
 h.go (Fr.of_below d) (h.gr.keep (d.block G h.gr.lt))
theorem sw {a:Type} (cs:a->List Value) (b:List a) (y:a):aa cs (b++[y])=aa cs b++cs y:=by simp[aa]
theorem wo.push {w4:World} (h:wo w wr N G fb p a n c nx met ra rc zs) {z:ByteArray × ByteArray × Int} {v':Value} (k:w4.ownsRow (N+2) 75 3 v' (zs.length+1) (aa aB zs++aB z)) (g:wr.grownBy w4 (Value.slice ra zs.length rc).ownBlock) :
  ∃ e f,v'=.slice e (zs.length+1) f∧wo w (w4.setCell ⟨N+1,1,none⟩ v') N G fb p a n c nx met e f (zs++[z])∧w4.heap[N+1]?=some (.cells #[.int .i64 p,.slice ra zs.length rc] 125):=by
 obtain⟨e,f,rfl⟩:=ao k;have l:(zs++[z]).length=zs.length+1:=by simp
 have t:=h.lt;have u:=h.glt;have v:=h.sz;have d:=af w4 (N+1) 1 (.slice e (zs.length+1) f);have i:∀ b,b<N+2->w4.heap[b]?=wr.heap[b]?:=fun b x=>g.block b (by omega) (fun m=>by have:=(h.row.lt b m.symm).1;omega);have y:=g.size;refine⟨e,f,rfl,⟨h.sz,(d.block N (by omega) (by omega)).trans ((i N (by omega)).trans h.fb),?_,h.gr.keep ((d.block G (by omega) (by omega)).trans (i G (by omega))),?_,?_,h.glt⟩,(i (N+1) (by omega)).trans h.lb⟩;·have:=aj ((i (N+1) (by omega)).trans h.lb) 1 (.slice e (zs.length+1) f);rw[l];simpa using this
 ·rw[l,sw];exact am k d (fun o q m=>by have:=(k.lt o q).1;omega)
 ·have j:=h.fr;have A:=j.size;exact⟨d.os.trans (g.os.trans j.os),d.tape.trans (g.tape.trans j.tape),d.output.trans (g.output.trans j.output),by have:=d.size;omega,fun b r s=>(d.block b (by omega) (by omega)).trans ((i b (by omega)).trans (j.block b r s))⟩
def iA (x:TN) (nx:Nat) (met:Int->Bool):Option (T × Nat × (Int->Bool)) :=
 if 4<x.keys.length∨x.vals.length≠x.keys.length∨x.over.length≠x.keys.length∨0<x.kids.length then none
 else match gH x.page (x.vals.zip x.over) met with
  | none=>none
  | some m'=>some (⟨true,x.page,x.keys,x.vals,x.over,[]⟩,nx,m')
theorem gU {a b c:Value} {t:TypeId} (h:w.heap[N]?=some (.cells #[a,b,c] t)):w.cell? ⟨N,0,none⟩=some a∧w.cell? ⟨N,1,none⟩=some b∧w.cell? ⟨N,2,none⟩=some c:=by
 simp[World.cell?,h]
theorem aq {a b c d e f:Value} {t:TypeId} (h:w.heap[N]?=some (.cells #[a,b,c,d,e,f] t)):w.cell? ⟨N,0,none⟩=some a∧w.cell? ⟨N,1,none⟩=some b∧w.cell? ⟨N,2,none⟩=some c∧w.cell? ⟨N,3,none⟩=some d∧w.cell? ⟨N,4,none⟩=some e∧w.cell? ⟨N,5,none⟩=some f:=by
 simp[World.cell?,h]
theorem sF (x:TN) (Q:Option Addr) (j C:Nat) (R:Option Addr) (k q:Nat) (S:Option Addr) (on r:Nat) (K:Option Addr) (D L:Nat) (T:Bool) (w:World) (G:Nat) (a:Option Addr) (n c nx:Nat) (met:Int->Bool) (A B:Nat) (cI:B<=G) (aV:eN w G a n c nx met)
  (g:aP w A B Q j C x.keys) (av:aP w A B R k q x.vals) (aw:bf w A B S on r x.over) (aL:bf w A B K D L x.kids) :
  Calls prog 57 #[.pointer (some ⟨G,0,none⟩),.agg (Zs T x.page Q j C R k q S on r K D L)] w fun M w'=>iz w G a n c (iA x nx met) M w':=by
 obtain⟨N,aW⟩:=Zn w.heap.size;have ab:Hid (x.keys.length=j∧x.vals.length=k∧x.over.length=on∧x.kids.length=D):=⟨g.1,av.1,aw.1,aL.1⟩;have bW:=Eo g.2.1 g.2.2.1;have bX:=Eo av.2.1 av.2.2.1;have bY:=Eo aw.2.1 aw.2.2.1;have bZ:=Eo aL.2.1 aL.2.2.1;unfold maxLen at bW bX bY bZ;have b0:=aV.lt;have O:Hid (iA x nx met=none∨¬ (4<j∨k≠j∨on≠j∨0<D)):=by
  by_cases d:4<j∨k≠j∨on≠j∨0<D;·left;unfold iA;rw[ab.out.1,ab.out.2.1,ab.out.2.2.1,ab.out.2.2.2,if_pos d]
  ·exact .inr d
 have ah:=Ej w (.cells (Zs T x.page Q j C R k q S on r K D L) 44);have ai:=Zb w (.cells (Zs T x.page Q j C R k q S on r K D L) 44);have aX:(w.alloc (.cells (Zs T x.page Q j C R k q S on r K D L) 44)).heap.size=N+1:=by simp[aW]
 rw[aW] at ah;have bt:=hidI aV;have bu:=hidI g;have bv:=hidI av;have bw:=hidI aw;obtain⟨p,aY⟩:=Zn x.page;have b1:=hidI aY;rw[aY] at ah ai aX ⊢;clear aV g av aw aL aY;obtain⟨ax,aZ⟩:=Zn (iA x nx met);have bx:=hidI aZ;rw[aZ] at O ⊢;clear aZ;go_enter func57,ntmps57;go_upto_region 1 with fail
 generalize w.alloc (.cells (Zs T p Q j C R k q S on r K D L) 44)=aj at ah ai aX ⊢;obtain⟨E,F,ay,az,aA,aC⟩:=aq ah;have bz:N<aj.heap.size:=by omega
 have U:Hid (ax=none->iz w G a n c ax (.returned (.tuple #[.nilIface,.bool false])) aj):=fun d=>⟨fun _=>rfl,(fun t a0 a1 M=>by rw[d] at M;cases M),Fr.of_below ai⟩;by_cases b2:4<j
 ·have H:=U.out (O.out.resolve_right (fun d=>d (.inl b2)));have ac:=hidI H;clear H O U;go_wp2_with fail
  refine bodyPost_ret (v:=.tuple #[.nilIface,.bool false]) (by simp[results,results57,go_sem]) rfl ?_;exact ac.out
 by_cases a2:k≠j
 ·have H:=U.out (O.out.resolve_right (fun d=>d (.inr (.inl a2))));have ac:=hidI H;have b3:((k:Int) != (j:Int))=true:=(by simp;omega);clear H O U a2;go_wp2_with fail
  refine bodyPost_ret (v:=.tuple #[.nilIface,.bool false]) (by simp[results,results57,go_sem]) rfl ?_;exact ac.out
 have b4:k=j:=by omega
 clear a2;subst b4;have b3:((k:Int) != (k:Int))=false:=by simp
 by_cases a3:on≠k
 ·have H:=U.out (O.out.resolve_right (fun d=>d (.inr (.inr (.inl a3)))));have ac:=hidI H;have cJ:((on:Int) != (k:Int))=true:=(by simp;omega);clear H O U a3;go_wp2_with fail
  refine bodyPost_ret (v:=.tuple #[.nilIface,.bool false]) (by simp[results,results57,go_sem]) rfl ?_;exact ac.out
 have b5:on=k:=by omega
 clear a3;subst b5;by_cases b6:0<D
 ·have H:=U.out (O.out.resolve_right (fun d=>d (.inr (.inr (.inr b6)))));have ac:=hidI H;clear H O U;go_wp2_with fail
  refine bodyPost_ret (v:=.tuple #[.nilIface,.bool false]) (by simp[results,results57,go_sem]) rfl ?_;exact ac.out
 clear O U;have a4:Hid (ax=match gH p (x.vals.zip x.over) met with
  | none=>none
  | some b7=>some (⟨true,p,x.keys,x.vals,x.over,[]⟩,nx,b7)):=by
  show _=_;rw[<-bx.out];unfold iA;have d:=ab.out;rw[if_neg (by omega),b1.out]
 have b8:D=0:=by omega
 subst b8;have aM:=Zb aj (.cells #[.int .i64 p,.slice none 0 0] 125);have a5:=Ej aj (.cells #[.int .i64 p,.slice none 0 0] 125);rw[aX] at a5
 have aD:wo w (aj.alloc (.cells #[.int .i64 p,.slice none 0 0] 125)) N G (Zs T p Q on C R on q S on r K 0 L) p a n c nx met none 0 [] :=
  ⟨aW,(aM.block N (by omega)).trans ah,a5,bt.out.keep ((aM.block G (by omega)).trans (ai.block G b0)),World.ownsRow_nil _ _ _ _,(Fr.of_below ai).trans (Fr.of_below aM),by omega⟩
 have b9:Hid (∀ wr,Fr (fun ad=>ad=G) w wr->aP wr A B Q on C x.keys∧aP wr A B R on q x.vals∧bf wr A B S on r x.over):=fun wr ak=>by have a6:eS A B w wr:=fun ad s u=>ak.block ad (by omega) (by omega);exact⟨bu.out.keep a6,bv.out.keep a6,bw.out.keep a6⟩
 have al:Hid (x.keys.length=on∧x.vals.length=on∧x.over.length=on):=by have d:=ab.out;exact⟨d.1,d.2.1,d.2.2.1⟩
 obtain⟨b',ca,cb,cc,a7⟩:=info_parts iN;go_upto_region 5 with fail
 generalize aj.alloc (.cells #[.int .i64 p,.slice none 0 0] 125)=cd at aD ⊢;clear ah a5 aM ai E F ay az aA aC bx bt bu bv bw ab;obtain⟨E,F,ay,az,aA,aC⟩:=aq aD.fb;have ce:N<cd.heap.size:=by have:=aD.lt;omega
 go_wp2_with fail
 clear E F ay az aA aC ce;go_loopw [44] (fun a8 wr=>∃ (b:Nat) (ra:Option Addr) (rc:Nat) (zs:List (ByteArray × ByteArray × Int)) (V:Int->Bool),b<=on∧a8=.int .i64 b∧Hid (zs=(x.keys.zip (x.vals.zip x.over)).take b∧gH p (x.vals.zip x.over) met=gH p ((x.vals.zip x.over).drop b) V)∧wo w wr N G (Zs T p Q on C R on q S on r K 0 L) p a n c nx V ra rc zs) (fun a8 _=>on - (intOf a8).toNat)
 case atStart=>exact⟨0,none,0,[],met,En _,rfl,⟨by simp,by simp⟩,aD⟩
 case round =>
  clear aD;obtain⟨b,ra,rc,zs,V,cK,rfl,X,m⟩:=hrel;have a9:=m.lt;have ae:Hid (zs.length=b):=(by show _=_;rw[X.out.1,Eu,List.length_zip,List.length_zip];have:=al.out;omega);by_cases a':b<on
  ·obtain⟨bA,bB,bC⟩:=b9.out wr m.fr;obtain⟨ba,bD,rfl,cL,cf,bE⟩:=aP.at bA a';obtain⟨aE,aN,rfl,cM,bF,bG⟩:=aP.at bB a';obtain⟨aF,aO,rfl,cN,cg,bH⟩:=bf.at bC a';have aG:(x.keys.zip (x.vals.zip x.over)).take (b+1)=(x.keys.zip (x.vals.zip x.over)).take b++[(x.keys.getD b .empty,x.vals.getD b .empty,x.over.getD b 0)]:=(by have:=al.out;rw[ER (by simp;omega)];simp[List.getD,show b<x.keys.length by omega,show b<x.vals.length by omega,show b<x.over.length by omega]);have aH:(x.vals.zip x.over).drop b=(x.vals.getD b .empty,x.over.getD b 0)::(x.vals.zip x.over).drop (b+1):=(by have:=al.out;rw[List.drop_eq_getElem_cons (by simp;omega)];simp[List.getD,show b<x.vals.length by omega,show b<x.over.length by omega]);generalize x.keys.getD b .empty=h at bE cf aG;generalize x.vals.getD b .empty=f at bG bF aG aH;generalize x.over.getD b 0=e at bH cg aG aH;have bb:Hid ((eT V e=none∨∃ y,eT V e=some y∧lI p f e=false)->ax=none):=by
    intro d;rw[a4.out,X.out.2,aH];unfold gH;rcases d with d | ⟨y,s,u⟩;·simp[d]
    ·simp[s,u]
   have bI:Hid (∀ y,eT V e=some y->lI p f e=true->zs++[(h,f,e)]=(x.keys.zip (x.vals.zip x.over)).take (b+1)∧gH p (x.vals.zip x.over) met=gH p ((x.vals.zip x.over).drop (b+1)) y):=by
    intro y s u;refine⟨by rw[aG,X.out.1],?_⟩;rw[X.out.2,aH]
    conv=>lhs;unfold gH
    simp[s,u]
   clear aG aH bA bB bC X;obtain⟨E,F,ay,az,aA,aC⟩:=aq m.fb;have ch:=m.fr.size;have bz:N<wr.heap.size:=(by omega);have ci:ba<wr.heap.size:=(by omega);have cj:aE<wr.heap.size:=(by omega);have ck:aF<wr.heap.size:=(by omega);go_upto_region 8 with fail
   go_cut [10] (fun aI bJ=>aI=.pointer (some ⟨wr.heap.size,0,none⟩)∧bJ.heap[wr.heap.size]?=some (.cells #[.string h,.string f,.int .i64 e] 75)∧Below wr.heap.size wr bJ)
   case first =>
    go_region_held3 (fun w'=>w'.cell? ⟨N,3,none⟩=some (.slice (some ⟨aE,aN,none⟩) on q)∧w'.cell? ⟨N,4,none⟩=some (.slice (some ⟨aF,aO,none⟩) on r)∧w'.cell? ⟨aE,aN+b,none⟩=some (.string f)∧w'.cell? ⟨aF,aO+b,none⟩=some (.int .i64 e)) (go_keep) (fail)
    have cl:=Zb wr (.cells #[.string h,.string f,.int .i64 e] 75);have a7:=Ej wr (.cells #[.string h,.string f,.int .i64 e] 75);(go_wp2_with fail);go_meet
    exact⟨rfl,a7,cl.drew⟩
   case rest =>
    obtain⟨rfl,aJ,bK⟩:=hcut;obtain⟨l,bL⟩:=Zn wr.heap.size;have Y:=m.below bK;have cm:Hid ((Value.slice ra b rc).ownBlock≠some l):=fun M=>(by have s:=m.row;rw[ae.out] at s;have:=(s.lt l M).2;omega);have cO:N+2<=l:=(by omega);rw[bL] at aJ ⊢;clear E F ay az aA aC bE bG bH m bK bz ch ci cj ck a9 bL;generalize wc=am at Y aJ ⊢;have bM:=hidI Y.fr;have bN:Hid (eN am.drew G a n c nx V):=Y.gr.keep rfl;have cP:=Y.lt;have cQ:=Y.glt;have cn:=Za aJ;have bO:Hid (∀ W,Fr (fun ad=>ad=G) am W->∀ bc,eN W G a n c nx bc->wo w W N G (Zs T p (some ⟨ba,bD,none⟩) on C (some ⟨aE,aN,none⟩) on q (some ⟨aF,aO,none⟩) on r K 0 L) p a n c nx bc ra rc zs):=fun W ak bc bd=>Y.go ak bd;have be:=Y.lb;rw[ae.out] at be;have aK:Hid (∀ w',Fr (fun ad=>ad=G) am w'->(fun w':World=>w'.heap[l]?=some (.cells #[.string h,.string f,.int .i64 e] 75)∧w'.heap[N+1]?=some (.cells #[.int .i64 p,.slice ra b rc] 125)) w'):=fun w' ak=>⟨(ak.block l cn (by omega)).trans aJ,(ak.block (N+1) (by omega) (by omega)).trans be⟩;clear Y aJ be;(go_upto_region 9 with fail);refine Zg (fun w':World=>w'.heap[l]?=some (.cells #[.string h,.string f,.int .i64 e] 75)∧w'.heap[N+1]?=some (.cells #[.int .i64 p,.slice ra b rc] 125)) (aK.out am (Fr.refl _ _)) (fun P=>?_);refine Zx .a0 ?_;refine Zx .a1 ?_;refine Zy .a2 (fun bg I=>by (try dsimp only at I);obtain⟨bh,q1,q2⟩:=gU I.1;go_simp;rfl) ?_;(try simp only[Zq]);refine Zr [3] ?_;refine rdA .a3 (fun o g=>?_) Ei;go_simp;refine (ux am.drew G a n c nx V e bN.out).mono ?_;rintro M bP ⟨co,rfl,bi,bj,bQ⟩;have aQ:=(Fr.of_below ((Ev _ am).drew)).trans bQ;clear bQ;(go_wp2_with fail);refine g.out _ _ (aK.out bP aQ) (fun P=>?_);clear g o;(try simp only[Zq]);cases co;·have bk:=bb.out (.inl (bj rfl));clear bi bj;refine Zx .a4 ?_;refine Zx .a5 ?_;refine Zu .a6 ?_;refine Zu .a7 ?_;(try simp only[Zq]);refine Zu .a8 ?_;refine Zu .a9 ?_;refine Zu (.t .a0) ?_;refine Zu (.t .a1) ?_;(try simp only[Zq]);refine Zu (.t .a2) ?_;refine Zu (.t .a3) ?_;refine Zx (.t .a4) ?_;(try simp only[Zq]);refine Zd ?_;(go_wp2_with fail);refine bodyPost_ret (v:=.tuple #[.nilIface,.bool false]) (by simp[results,results57,go_sem]) rfl ?_;exact⟨fun _=>rfl,(fun bR a0 a1 d=>by rw[bk] at d;cases d),(bM.out.trans aQ)⟩
    ·obtain⟨y,bl,bm⟩:=bi rfl;clear bi bj;refine Zx .a4 ?_;refine Zx .a5 ?_;refine Zy .a6 (fun bg I=>by (try dsimp only at I);obtain⟨bh,q1,q2⟩:=gU I.1;go_simp;rfl) ?_;refine Zx .a7 ?_;(try simp only[Zq]);refine Zx .a8 ?_;refine Zx .a9 ?_;refine Zx (.t .a0) ?_;refine Zy (.t .a1) (fun bg I=>by (try dsimp only at I);obtain⟨bh,q1⟩:=au I.2;go_simp;rfl) ?_;(try simp only[Zq]);refine Zr [12] ?_;refine rdA (.t .a2) (fun o g=>?_) Ei;go_simp;refine (ss h f e p bF bP).mono ?_;rintro M W ⟨rfl,bn⟩;have ao:=aQ.trans (Fr.of_below bn);have cp:=bm.keep (bn.block G bm.lt);clear bn bm;(go_wp2_with fail);refine g.out _ _ (aK.out W ao) (fun P=>?_);clear g o;(try simp only[Zq]);obtain⟨cq,aR⟩:=Zn (lI p f e);rw[aR];cases cq;·have bk:=bb.out (.inr ⟨y,bl,aR⟩);refine Zx (.t .a3) ?_;refine Zx (.t .a4) ?_;(try simp only[Zq]);refine Zd ?_;(go_wp2_with fail);refine bodyPost_ret (v:=.tuple #[.nilIface,.bool false]) (by simp[results,results57,go_sem]) rfl ?_;exact⟨fun _=>rfl,(fun bR a0 a1 d=>by rw[bk] at d;cases d),(bM.out.trans ao)⟩
     ·have cs:Hid _:=bI.out y bl aR;clear bl aR bI bb;refine Zx (.t .a3) ?_;refine Zx (.t .a4) ?_;(try simp only[Zq]);refine Zd ?_;(go_upto_region 11 with fail);have cR:=hidI ao;obtain⟨ap,bo⟩:=aK.out W ao;have bp:=bO.out W ao y cp;clear aK bN bO ao P aQ;generalize W=J at *;have a9:=Za bo;have ct:=oJ J (.string h) (.string f) (.int .i64 e) 75;have bq:=bp.row;rw[ae.out] at bq;have Z:Below J.heap.size J (J.alloc (.cells #[.string h,.string f,.int .i64 e] 75)):=Zb _ _;have cu:=an bq Z.drew;have cv:Hid (∀ ag i,i.ownsRow (N+2) 75 3 ag (b+1) (aa aB zs++[.string h,.string f,.int .i64 e])->(J.alloc (.cells #[.string h,.string f,.int .i64 e] 75)).drew.grownBy i (Value.slice ra b rc).ownBlock->∃ aS aT,ag=.slice aS (b+1) aT∧wo w (i.setCell ⟨N+1,1,none⟩ ag) N G (Zs T p (some ⟨ba,bD,none⟩) on C (some ⟨aE,aN,none⟩) on q (some ⟨aF,aO,none⟩) on r K 0 L) p a n c nx y aS aT (zs++[(h,f,e)])∧i.heap[N+1]?=some (.cells #[.int .i64 p,.slice ra b rc] 125)):=(by intro ag i s u;have:=(bp.below Z.drew).push (z:=(h,f,e)) (v':=ag) (w4:=i) (by rw[ae.out];exact s) (by rw[ae.out];exact u);rw[ae.out] at this;exact this);have cw:N+2<=(J.alloc (.cells #[.string h,.string f,.int .i64 e] 75)).drew.heap.size:=(by have:=Z.size;have cS:(J.alloc (.cells #[.string h,.string f,.int .i64 e] 75)).drew.heap.size=(J.alloc (.cells #[.string h,.string f,.int .i64 e] 75)).heap.size:=rfl;omega);have br:=Za ap;clear bq bp;have cx:Hid (∀ i,(J.alloc (.cells #[.string h,.string f,.int .i64 e] 75)).drew.grownBy i (Value.slice ra b rc).ownBlock->i.heap[l]?=some (.cells #[.string h,.string f,.int .i64 e] 75)):=fun i u=>(u.block l (by have:=Z.size;show l<(J.alloc (.cells #[.string h,.string f,.int .i64 e] 75)).heap.size;omega) (fun M=>cm.out M.symm)).trans ((Z.block l br).trans ap);have cy:Hid (∀ (i:World) aI,i.heap[l]?=some (.cells #[.string h,.string f,.int .i64 e] 75)->(i.setCell ⟨N+1,1,none⟩ aI).heap[l]?=some (.cells #[.string h,.string f,.int .i64 e] 75)):=fun i aI d=>((af i (N+1) 1 aI).block l (Za d) (by omega)).trans d;refine Zg (fun w':World=>w'.heap[l]?=some (.cells #[.string h,.string f,.int .i64 e] 75)) (ap) (fun P=>?_);refine Zx .a0 ?_;refine Zx .a1 ?_;refine Zx .a2 ?_;refine Zx .a3 ?_;(try simp only[Zq]);refine Zy .a5 (fun bg I=>by (try dsimp only at I);obtain⟨bh,q1,q2⟩:=gU I;go_simp;rfl) ?_;(try simp only[Zq]);refine Zr [4,6] ?_;refine rdA .a4 (fun o g=>?_) ?_;rotate_left 1;refine rdA .a6 (fun o g=>?_) ?_;rotate_left 1;exact Ei
      focus
        obtain⟨E,F⟩:=au (bo);go_simp;clear E F;refine g.out _ _ (ap) (fun P=>?_);clear g o;(try simp only[Zq]);refine Zr [6] ?_;refine rdA .a6 (fun o g=>?_) Ei;go_simp
      rotate_left
      focus
        go_simp;refine g.out _ _ ((Z.block l br).trans ap) (fun P=>?_);clear g o;(try simp only[Zq]);refine Zr [4] ?_;refine rdA .a4 (fun o g=>?_) Ei;obtain⟨E,F⟩:=au ((Z.block (N+1) a9).trans bo);go_simp;clear E F
      rotate_left
      all_goals
        refine g.out _ _ ((Z.block l br).trans ap) (fun P=>?_);clear g o;(try simp only[Zq]);refine Zr [7] ?_;refine rdA .a7 (fun o g=>?_) Ei;refine li rfl _ _ 119 rfl (N+2) 75 b' _ 3 40 underlying119 ca cb cc a7 rfl (by decide) (.slice ra b rc) b (aa aB zs) (by simp[Act.eval]) cu ⟨J.heap.size,0,none⟩ 1 1 [.string h,.string f,.int .i64 e] (by simp[Act.eval]) rfl ct (by simp[Value.oneCell']) (by unfold maxLen;omega) (by omega) cw ?_;intro ag i s u cz;obtain⟨aS,aT,rfl,cA,aU⟩:=cv.out ag i s u;have bs:=cx.out i u;clear s u cz;refine g.out _ _ (bs) (fun P=>?_);clear g o;refine Zx .a8 ?_;refine Zx .a9 ?_;(try simp only[Zq]);refine Zr [10] ?_;refine rdA (.t .a0) (fun o g=>?_) Ei;obtain⟨E,F⟩:=au aU;have cB:=ar aU;have cT:=Za aU;go_simp;clear E F cB;refine g.out _ _ (cy.out i _ bs) (fun P=>?_);clear g o;(try simp only[Zq]);refine Zd ?_;clear P bs aU;(go_wp2_with fail);go_roundw
        case rel=>exact⟨b+1,aS,aT,zs++[(h,f,e)],y,by omega,by go_num,cs,cA⟩
        case measure=>simp[intOf];omega
  ·have cC:b=on:=(by omega);subst cC;have bS:Hid (zs=x.keys.zip (x.vals.zip x.over)):=(by show _=_;rw[X.out.1,Ey (by simp;have:=al.out;omega)]);have bT:Hid (ax=some (⟨true,p,x.keys,x.vals,x.over,[]⟩,nx,V)):=(by show _=_;rw[a4.out,X.out.2,List.drop_of_length_le (by simp;have:=al.out;omega)];rfl);have cD:=m.fr;have cE:=m.gr;have cU:=m.sz;have bU:GM wr (fun bV=>w.heap.size<=bV∧bV<wr.heap.size) ⟨true,p,x.keys,x.vals,x.over,[]⟩ (.iface 123 (.pointer (some ⟨N+1,0,none⟩))):=by
    refine su.is (a:=ra) (n:=zs.length) (c:=rc) ⟨⟨by omega,by omega⟩,m.lb,?_,fun cF bd=>?_,by have:=ae.out;have:=al.out;show zs.length=x.keys.length;omega⟩ rfl;·rw[<-bS.out];exact cr m.row (En _)
    ·have cG:=m.row.lt cF bd;exact⟨⟨by omega,cG.2⟩,by omega⟩
   have cH:Hid _:=bU;clear m bU bS X a4;go_wp2_with fail
   refine bodyPost_ret (v:=.tuple #[.iface 123 (.pointer (some ⟨N+1,0,none⟩)),.bool true]) (by simp[results,results57,go_sem]) rfl ?_;refine⟨fun d=>(by rw[bT.out] at d;cases d),fun bR a0 a1 d=>?_,cD⟩;rw[bT.out] at d;simp only[Option.some.injEq,Prod.mk.injEq] at d;obtain⟨rfl,rfl,rfl⟩:=d;exact⟨_,rfl,cH.out,cE⟩
end Go.Proofs.YtggmghkcdfjdoaaGreat
