import Derived.Test.YtgcedpmagmmikaaGreatHTks
import Derived.Test.YtgcedpmagmmikaaGreatHTga
import Derived.Test.YtgcedpmagmmikaaGreatHTge
import Derived.Test.YtgcedpmagmmikaaGreatHTgf
import Derived.Test.YtgcedpmagmmikaaGreatHTlh
import Derived.Test.YtgcedpmagmmikaaGreatHTli
import Derived.Laws.Tables
import Derived.Shelf.Spec.SlicesInsertGrow
import Derived.Deep.RegionLaw
import Derived.Laws.AppendOwn
import Derived.ArgAppend
namespace Go.Proofs.YtgcedpmagmmikaaGreat
set_option maxHeartbeats 2000000
open Go.RowKit Tryz
set_option linter.unusedVariables false
set_option linter.unusedSimpArgs false
set_option maxRecDepth 100000
variable {P:Nat->Prop} {base c n:Nat} {w:World}
theorem mB {P:Program} (w:World) {ops:Array Oper} {rest:List Oper} {o:Oper} {a:Act} {Q:Exit->Act->World->Prop} (q:o.guard=none) (s x:Operand) (t:TypeId)
  (r:o.op=.call { callee:=.builtin .append,args:=#[s,x],argTypes:=#[t,t] })
  (base:Nat) (e:TypeId) (i:TypeInfo) (z:Value) (k:Nat) (ht:P.underlying t=some (.slice e)) (u:P.info? e=some i) (F:i.zero=some z)
  (G:i.size=3) (H:i.bytes=k) (I:z.cells.size=3)
  (v:Value) (n:Nat) (f:List Value) (y:a.eval s=v) (l:w.ownsRow base e 3 v n f)
  {J:Nat->Prop} {b:Option Addr} {m c:Nat} {zs:List (ByteArray × ByteArray × Int)} (A:a.eval x=.slice b m c) (K:qF w J b m c zs)
  (L:n+m<=maxLen) (M:(n+m)*k<=140737488355328) (N:base<=w.heap.size)
  (h:∀ g d,d.ownsRow base e 3 g (n+m) (f++aa aB zs)->w.grownBy d v.ownBlock->wpList P ops Q rest (a.put o.dst g) d):wpList P ops Q (o::rest) a w:=by
 obtain⟨p,Z,ab,B⟩:=K;cases b with
 |none=>
  have O:m=0:=by
   rcases EQ m with h | h;·exact h
   ·obtain⟨R,e,_⟩:=B h;cases e
  subst O;have j:=ED p;subst j;refine wpList_plain q fun _ S=>?_;have T:=iQ (P:=P) w base t o.type e i 3 ht u _ n f l c;unfold Oper.wp execOp;simp only[r,resolve,invoke,builtin,Sem.run_bind,Sem.run_pure,Result.andThen_ok,List.map_toArray,D8,Ez,y,A,T];exact S _ _ (h v w (by simpa[aa] using l) ⟨rfl,rfl,rfl,DU _,fun _ _ _=>rfl⟩)
 |some b=>
  refine ak w q s x t r base e i z 3 k ht u F G H I (by omega) v n f y l b m c (aa aB zs) A (by rw[ay uo,p]) (fun C U D=>?_) (fun U E=>?_) L M N (fun g d V W _=>h g d V W)
  ·have X:C<m*3:=by
    have:=Zc D
    rwa [ay uo,p] at this
   obtain⟨R,e,ac,Y⟩:=B (by omega);cases e;rw[nt,Y C X,D]
  ·simp only[aa,List.mem_flatMap,aB] at E;obtain⟨ad,_,j⟩:=E;simp at j;rcases j with rfl | rfl | rfl<;>rfl
def CM (base:Nat) (w:World) (zs:List (ByteArray × ByteArray × Int)) (ty:TypeId) (v:Value):Prop :=
 (∀ w,(nilAhead 293 ty v "loop.example/s02098/impl.slots").run prog w=.ok (some false) w)∧∃ f r,(∀ w,(method 293 ty v "loop.example/s02098/impl.slots").run prog w=.ok (f,r) w)∧(∀ x w,(callFunc f #[r,x]).run prog w=.ok (.enter f #[r,x]) w) ∧
  ∀ (w':World),Below base w w'->∀ (oa:Option Addr) (on oc:Nat) (xs:List Value),w'.ownsRow base 73 3 (.slice oa on oc) on xs->on+zs.length<=100000->base<=w'.heap.size->Calls prog f #[r,.slice oa on oc] w' fun e w2=>∃ oa' oc',e=.returned (.slice oa' (on+zs.length) oc')∧w2.ownsRow base 73 3 (.slice oa' (on+zs.length) oc') (on+zs.length) (xs++aa aB zs)∧Fr (fun k=>base<=k) w' w2
theorem uH {t:T} {L:Nat} {a:Option Addr} (h:gI w P t L a n c) (k:∀ b,P b->b<base) (w':World) (l:Below base w w') (f:Option Addr) (on g:Nat) (i:List Value) (m:w'.ownsRow base 73 3 (.slice f on g) on i) (H:on+n<=100000) (q:base<=w'.heap.size) :
  Calls prog 120 #[.pointer (some ⟨L,0,none⟩),.slice f on g] w' fun r j=>∃ d e,r=.returned (.slice d (on+n) e)∧j.ownsRow base 73 3 (.slice d (on+n) e) (on+n) (i++aa aB (t.keys.zip (t.vals.zip t.over)))∧Fr (fun s=>base<=s) w' j:=by
 have u:=k L h.at';have o:=(l.block L u).trans h.box;obtain⟨I,J⟩:=au o;have K:L<w'.heap.size:=by omega
 have v:=h.row.keep (fun b x=>l.block b (k b x)) (fun b h=>h);have y:=fun z A=>(m.lt z A).1;obtain⟨B,C,D,E,F⟩:=info_parts iN;clear h o;generalize t.keys.zip (t.vals.zip t.over)=M at *;generalize t.page=N at *;go_enter func120,ntmps120;go_wp2_with (at_builtin;refine mB _ rfl _ _ 86 rfl base 73 B _ 40 underlying86 C D E F rfl (.slice f on g) on i rfl m rfl v (by unfold maxLen;omega) (by omega) q ?_;intro O j p G)
 obtain⟨d,e,rfl⟩:=ao p;go_ret;exact⟨d,e,rfl,p,Fr.of_grown G y⟩
theorem sM {t:T} {L:Nat} {a:Option Addr} {us:Nat->Value} (h:eM w P t L a n c us) (C:∀ f,P f->f<base) (D:∀ e b,t.kids[e]?=some b->∃ u v,us e=.iface u v∧CM base w b.slots u v) (w':World) (p:Below base w w') (x:Option Addr) (on y:Nat) (q:List Value) (j:w'.ownsRow base 73 3 (.slice x on y) on q) (W:on+((t.kids.map T.slots).flatten).length<=100000) (X:base<=w'.heap.size) :
  Calls prog 99 #[.pointer (some ⟨L,0,none⟩),.slice x on y] w' fun i r=>∃ E F,i=.returned (.slice E (on+((t.kids.map T.slots).flatten).length) F)∧r.ownsRow base 73 3 (.slice E (on+((t.kids.map T.slots).flatten).length) F) (on+((t.kids.map T.slots).flatten).length) (q++aa aB (t.kids.map T.slots).flatten)∧Fr (fun b=>base<=b) w' r:=by
 have Y:=C L h.at';have G:=(p.block L Y).trans h.box;obtain⟨Z,ab⟩:=au G;have ay:L<w'.heap.size:=by omega
 have H:=hidI h.len.1;have ac:=DX h.len.2.1 h.len.2.2;unfold maxLen at ac;have ad:Hid (∀ wr,Fr (fun b=>base<=b) w' wr->∀ e,e<n->∃ f,a=some ⟨f,0,none⟩∧f<wr.heap.size∧wr.cell? ⟨f,e,none⟩=some (us e)):=fun wr ae e af=>by obtain⟨f,i,ag,ah⟩:=h.row (by omega);have:=C f ag;have s:wr.cell? ⟨f,e,none⟩=some (us e):=(by rw[DZ (w:=w) (a:=⟨f,e,none⟩) ((ae.block f (by omega) (by omega)).trans (p.block f this))];exact ah e af);exact⟨f,i,aO s,s⟩
 have ai:=hidI D;obtain⟨aj,z⟩:=Zn ((t.kids.map T.slots).flatten);have I:=hidI z;rw[z] at W ⊢;have ak:=hidI p;clear h D G z p;generalize t.page=az at *;go_enter func99,ntmps99;go_wp2_with fail
 clear Z ab;go_loopw [1,12] (fun al e wr=>∃ (d g:Nat) (k:Option Addr) (l:Nat),d<=n∧e=.int .i64 d∧al=.slice k g l∧Hid (g=on+(((t.kids.map T.slots).take d).flatten).length)∧wr.ownsRow base 73 3 (.slice k g l) g (q++aa aB ((t.kids.map T.slots).take d).flatten)∧Fr (fun b=>base<=b) w' wr) (fun _ e _=>n - (intOf e).toNat)
 case atStart=>exact⟨0,on,x,y,D0 _,rfl,rfl,by show _=_;simp,by simpa[aa] using j,Fr.refl _ _⟩
 case round =>
  clear j;obtain⟨d,g,k,l,aA,rfl,rfl,m,j,o⟩:=hrel;by_cases am:d<n
  ·obtain⟨f,rfl,aC,s⟩:=ad.out wr o d am;obtain⟨b,J⟩:∃ b,t.kids[d]?=some b:=⟨_,DQ (by have:=H.out;omega)⟩;obtain⟨u,v,K,aE,aF,aG,aH,M,N⟩:=ai.out d b J;rw[K] at s;have A:((t.kids.map T.slots).take (d+1)).flatten=((t.kids.map T.slots).take d).flatten++b.slots:=(by obtain⟨an,i⟩:=Er.1 J;rw[Eo (by simpa using an),EF];simp[i]);have O:=jd (t.kids.map T.slots) (d+1);have ao:g+b.slots.length<=100000:=(by rw[A,DV,I.out] at O;have:=m.out;omega);have Q:=N wr (ak.out.trans (o.below X (fun aI i=>i))) k g l _ j ao (by have:=o.size;omega);have B:Hid _:=A;have aJ:=M (.slice k g l);clear A O N j K M;go_wp2_with fail
   refine Q.mono ?_;rintro i r ⟨R,S,rfl,U,V⟩;have ap:r.ownsRow base 73 3 (.slice R (g+b.slots.length) S) (g+b.slots.length) (q++aa aB ((t.kids.map T.slots).take (d+1)).flatten):=(by rw[B.out,aD,<-Eb];exact U);have aq:Hid (g+b.slots.length=on+(((t.kids.map T.slots).take (d+1)).flatten).length):=(by show _=_;rw[B.out,DV];have:=m.out;omega);have ar:=o.trans V;clear Q U m o V B;generalize b.slots.length=av at *;go_wp2_with fail
   go_roundw
   case rel=>exact⟨d+1,g+av,R,S,by omega,by go_num,rfl,aq,ap,ar⟩
   case measure=>simp[intOf];omega
  ·have aw:Hid (((t.kids.map T.slots).take d).flatten=aj):=(by show _=_;rw[<-I.out,D6 (by simp;have:=H.out;omega)]);rw[aw.out] at j m;have ax:=m.out;clear m;subst ax;go_wp2_with fail
   go_ret;exact⟨k,l,rfl,j,o⟩
theorem gf.slots (z:∀ b,P b->b<base):∀ (a:T) (g:TypeId) (i:Value),cg a->gf w P a (.iface g i)->CM base w a.slots g i:=by
 intro a
 induction a using T.ind with
 |h a F=>
  intro g i j A;rw[bj] at j;cases d:a.leaf;·obtain⟨k,G,n,c,K,l,e⟩:=A.inner d;cases l;have m:a.slots=(a.kids.map T.slots).flatten:=(by rw[T.slots_eq,if_neg (by simp[d]),D7]);rw[m];refine⟨fun w=>by kernel_rfl,99,.pointer (some ⟨k,0,none⟩),fun w=>by kernel_rfl,fun H w=>by kernel_rfl,fun o p q on r s t f u=>?_⟩;refine sM e z (fun I v B=>?_) o p q on r s t f u;have x:=D5 B;have y:=e.kid I v x B;obtain⟨C,D,E⟩:=y.shape;rw[E] at y;exact⟨C,D,E,F v x C D (j.2 v x) y⟩
  ·obtain⟨k,G,n,c,l,e⟩:=A.leaf d;cases l;have m:a.slots=a.keys.zip (a.vals.zip a.over):=(by rw[T.slots_eq,if_pos d,j.1 d];simp);rw[m];have J:=e.row.1;refine⟨fun w=>by kernel_rfl,120,.pointer (some ⟨k,0,none⟩),fun w=>by kernel_rfl,fun H w=>by kernel_rfl,fun o p q on r s t f u=>?_⟩;rw[J] at f ⊢;exact uH e z o p q on r s t f u
theorem iJ {g e size:Nat}:∀ (f:List Value) (a:Nat) (w:World) (b:List Value),w.ownsRow base e size (.slice (some ⟨g,0,none⟩) n c) n b->∃ d,(w.setCells g a f).ownsRow base e size (.slice (some ⟨g,0,none⟩) n c) n d∧d.take a=b.take a∧Fr (fun i=>i=g) w (w.setCells g a f)
 | [],a,w,b,h=>⟨b,h,rfl,Fr.refl _ _⟩
 | v::r,a,w,b,h=>by
  obtain⟨j,k⟩:=h.stored a v
  obtain⟨d,l,m,o⟩:=iJ r (a+1) (w.setCell ⟨g,a,none⟩ v) _ j
  refine⟨d,l,?_,(Fr.of_grown k (fun i e=>by cases e;rfl)).trans o⟩
  have:=congrArg (List.take a) m
  rw[List.take_take,List.take_take,show min a (a+1)=a by omega] at this
  rw[this,List.take_set_of_le (DU _)]
theorem vA {g e size i:Nat} {b:List Value} (h:w.ownsRow base e size (.slice (some ⟨g,0,none⟩) n c) n b) (d:i<=n):w.ownsRow base e size (.slice (some ⟨g,0,none⟩) i c) i (b.take (i*size)):=by
 have f:i*size<=n*size:=Nat.mul_le_mul_right _ d;refine⟨by rw[D3,h.1];omega,.inr ?_⟩;rcases h.2 with ⟨j,_⟩ | ⟨r,s,k,a,l,m,t,o,p,q⟩;·simp at j
 ·injection a with a e2 e3;cases a;subst e3;refine⟨g,c,k,rfl,l,m,by omega,o,p,?_⟩;rw[<-q,List.take_take,Nat.min_eq_left f]
theorem vB {b:Type} (C a:List b) (p q n:Nat) (e:a.length=n) (c:C.take n=a) (f:p+q<=n) (g:n<=C.length) :
  (C.take p++a.drop (p+q)++C.drop (p+(a.drop (p+q)).length)).take (n - q)=a.take p++a.drop (p+q)∧(C.take p++a.drop (p+q)++C.drop (p+(a.drop (p+q)).length)).length=C.length:=by
 have d:C.take p=a.take p:=by
  have:=congrArg (List.take p) c
  rwa [List.take_take,Nat.min_eq_left (by omega)] at this
 constructor;·rw[d,El (by simp;omega),D6 (by simp;omega)]
 ·simp;omega
theorem eK {P:Program} {ops:Array Oper} {o:Oper} {a:Act} {K:Act->World->Prop} {Q:Exit->Act->World->Prop} {E:Prop}
  (b:o.guard=none) (s x:Operand) (t:TypeId) (c:o.op=Op.call { callee:=Callee.builtin Builtin.append,args:=#[s,x],argTypes:=#[t,t] })
  (v u:Value) (d:a.eval s=v) (e:a.eval x=u) {v':Value} {w':World} (f:(Builtin.append_ #[t,t] o.type #[v,u]).run P w=.ok v' w') (g:K (a.put o.dst v') w') :
  if Region.wanted o (yielded ops a.tmps)=true then Oper.wp P o a w K Q else E:=by
 have h:Region.wanted o (yielded ops a.tmps)=true:=by simp[Region.wanted,b]
 rw[if_pos h];unfold Oper.wp;simp[execOp,c,resolve,invoke,builtin,d,e,f,Result.andThen];exact g
theorem AA:(Builtin.zeroCells #[.string ⟨#[]⟩,.string ⟨#[]⟩,.int .i64 0] 1).toList=[.string ⟨#[]⟩,.string ⟨#[]⟩,.int .i64 0]:=by
 simp[Builtin.zeroCells];rfl
theorem qO (w:World) (ty:TypeId) (b o c:Nat) (e:∀ j,j<3->(w.cell? ⟨b,o+j,none⟩).isSome=true) (f:∀ j,j<3->w.frozen? ⟨b,o+j,none⟩=false) :
  (Builtin.clear_ #[86] ty #[.slice (some ⟨b,o,none⟩) 1 c]).run prog w=.ok (.tuple #[]) (w.setCells b o [.string ⟨#[]⟩,.string ⟨#[]⟩,.int .i64 0]):=by
 have a:=run_storeCells_cells (P:=prog) b o [.string ⟨#[]⟩,.string ⟨#[]⟩,.int .i64 0] 0 w (by simpa using e) (by simpa using f) (by intro g d;simp at d;rcases d with rfl | rfl | rfl<;>rfl);simp only[EU] at a;rw[<-AA] at a ⊢;simp[Builtin.clear_,run_underlying underlying86,Value.cells,a]
theorem pT (i m c:Nat) (a:Option Addr) (e:List Value) (w:World) (o:w.ownsRow 0 73 3 (.slice a (m+1) c) (m+1) e) (ai:i<=m) (aj:m<=1000) (G:∀ p ∈ e,p.oneCell'=true) :
  Calls prog 123 #[.slice a (m+1) c,.int .i64 i,.int .i64 ((i:Int)+1)] w fun h H=>h=.returned (.slice a m c)∧H.ownsRow 0 73 3 (.slice a m c) m (e.take (i*3)++e.drop ((i+1)*3))∧Fr (fun j=>(Value.slice a (m+1) c).ownBlock=some j) w H:=by
 obtain⟨V,I,W,q,X⟩:=info_parts iN;have J:=o.1;rcases o.2 with ⟨h,ak⟩ | ⟨b,al,l,h,_,r,Y,K,s,L⟩;·omega
 simp only[Value.slice.injEq] at h;obtain⟨rfl,_,rfl⟩:=h;have M:∀ (b D k:Nat),(⟨b,D,none⟩:Addr).add k=⟨b,D+k,none⟩:=fun b D k=>by simp[Addr.add]
 obtain⟨d,t⟩:∃ d:Array Value,(l.toList.take (i*3)++e.drop ((i+1)*3)++l.toList.drop (i*3+(e.drop ((i+1)*3)).length)).toArray=d:=⟨_,rfl⟩;have u:=vB l.toList e (i*3) 3 ((m+1)*3) (by omega) L (by omega) (by simp[s];omega);rw[show i*3+3=(i+1)*3 by omega] at u;have v:d.size=c*3:=by rw[<-t];simpa[s] using u.2
 have N:d.toList.take (m*3)=e.take (i*3)++e.drop ((i+1)*3):=by rw[<-t];have:=u.1;rw[show (m+1)*3 - 3=m*3 by omega] at this;exact this
 have O:=setRow_heap w.drew b l d _ _ r;have am:=Za r;have x:(e.drop ((i+1)*3)).length=(m - i)*3:=by rw[Es,J];omega
 have y:∀ f (z:Addr) g,(i<m->z=⟨b,(i+1)*3,none⟩)->(Builtin.append_ #[86,86] f #[.slice (some ⟨b,0,none⟩) i c,.slice (some z) (m - i) g]).run prog w.drew=.ok (.slice (some ⟨b,0,none⟩) m c) (w.drew.setRow b d):=fun f z g Z=>by have A:=run_append_room (P:=prog) (w:=w.drew) 86 f 73 V underlying86 I b i c l r z (m - i) g (e.drop ((i+1)*3)) (by rw[q,x]) (fun E p n=>by have aa:=Zc n;rw[x] at aa;rw[Z (by omega),M];rw[Eu] at n;have:=o.cellAt ((i+1)*3+E) (by omega);exact this.trans n) (fun p ab=>G p (Ef ab)) (by omega) (by rw[q,x,s];omega);rw[q,t,show i+(m - i)=m by omega] at A;exact A
 have B:(w.drew.setRow b d).ownsRow 0 73 3 (.slice (some ⟨b,0,none⟩) (m+1) c) (m+1) (d.toList.take ((m+1)*3)):=⟨by rw[D3,Array.length_toList,v];omega,.inr ⟨b,c,d,rfl,D0 _,O,Y,K,v,rfl⟩⟩;have Q:∀ f g,(Builtin.clear_ #[86] f #[.slice (some ⟨b,m*3,none⟩) 1 g]).run prog (w.drew.setRow b d)=.ok (.tuple #[]) ((w.drew.setRow b d).setCells b (m*3) [.string ⟨#[]⟩,.string ⟨#[]⟩,.int .i64 0]):=fun f g =>qO _ f b (m*3) g (fun E n=>by rw[B.cellAt _ (by omega),DQ (by rw[D3,Array.length_toList,v];omega)];rfl) (fun E n=>B.frozenAt _);obtain⟨ac,q1,q2,q3⟩:=iJ [.string ⟨#[]⟩,.string ⟨#[]⟩,.int .i64 0] (m*3) _ _ B;have F:=vA q1 (show m<=m+1 by omega);rw[q2,List.take_take,Nat.min_eq_left (by omega),N] at F;have R:Fr (fun j=>(Value.slice (some ⟨b,0,none⟩) (m+1) c).ownBlock=some j) w (w.drew.setRow b d):=⟨rfl,rfl,rfl,by simp,fun k an ad=>by have ae:k≠b:=fun h=>ad (by rw[h];rfl);rw[setRow_other _ b k d ae];rfl⟩;have S:=R.trans (q3.weak (T:=fun j=>(Value.slice (some ⟨b,0,none⟩) (m+1) c).ownBlock=some j) (fun ao h=>by subst h;rfl));have af:=K;unfold maxLen at af;have U:Hid (((w.drew.setRow b d).setCells b (m*3) [.string ⟨#[]⟩,.string ⟨#[]⟩,.int .i64 0]).ownsRow 0 73 3 (.slice (some ⟨b,0,none⟩) m c) m (e.take (i*3)++e.drop ((i+1)*3))∧Fr (fun j=>(Value.slice (some ⟨b,0,none⟩) (m+1) c).ownBlock=some j) w ((w.drew.setRow b d).setCells b (m*3) [.string ⟨#[]⟩,.string ⟨#[]⟩,.int .i64 0])):=⟨F,S⟩;clear q1 q2 q3 F R S B u v N O x o r s L J G ac t W q X I M;have ap:¬ ((i:Int)=(i:Int)+1):=by omega
 have aq:(i:Int)+1<=(m:Int)+1:=by omega
 have ar:(i:Int)<=(m:Int)+1:=by omega
 have au:((i:Int)+1).toNat=i+1:=by omega
 have av:((m:Int)+1).toNat=m+1:=by omega
 have aw:(0:Int)<=(i:Int)+1:=by omega
 have ax:¬ (c=m):=by omega
 have ay:m+1 - (i+1)=m - i:=by omega
 have az:m+1 - m=1:=by omega
 have aA:i<=i+1:=by omega
 have aB:i<=c:=by omega
 have aC:i+1<=m+1:=by omega
 have aD:(i:Int)<=(i:Int)+1:=by omega
 by_cases ag:c=i+1
 ·have ah:m=i:=(by omega);have C:∀ f g,_:=fun f g=>y f ⟨b,0,none⟩ g (fun A=>by omega);subst ah;subst ag;clear y;simp only[Nat.sub_self] at C;go_enter func123,ntmps123;go_wp2_with fail
  go_region_law (refine eK rfl _ _ 86 rfl (.slice (some ⟨b,0,none⟩) m (m+1)) (.slice (some ⟨b,0,none⟩) 0 0) (by simp[Act.eval,Act.put]) (by simp[Act.eval,Act.put]) (C _ _) ?_)
  go_wp2_with (simp only[Q])
  go_ret;exact⟨rfl,U.out⟩
 ·have C:∀ f g,_:=fun f g=>y f ⟨b,(i+1)*3,none⟩ g (fun A=>rfl);clear y;go_enter func123,ntmps123;go_wp2_with fail
  go_region_law (refine eK rfl _ _ 86 rfl (.slice (some ⟨b,0,none⟩) i c) (.slice (some ⟨b,(i+1)*3,none⟩) (m - i) (c - (i+1))) (by simp[Act.eval,Act.put]) (by simp[Act.eval,Act.put]) (C _ _) ?_)
  go_wp2_with (simp only[Q])
  go_ret;exact⟨rfl,U.out⟩
theorem AB:(Builtin.zeroCells #[.nilIface] 1).toList=[.nilIface]:=by
 simp[Builtin.zeroCells]
theorem qP (w:World) (ty:TypeId) (b o c:Nat) (e:∀ j,j<1->(w.cell? ⟨b,o+j,none⟩).isSome=true) (f:∀ j,j<1->w.frozen? ⟨b,o+j,none⟩=false) :
  (Builtin.clear_ #[77] ty #[.slice (some ⟨b,o,none⟩) 1 c]).run prog w=.ok (.tuple #[]) (w.setCells b o [.nilIface]):=by
 have a:=run_storeCells_cells (P:=prog) b o [.nilIface] 0 w (by simpa using e) (by simpa using f) (by intro g d;simp at d;subst d;rfl);simp only[EU] at a;rw[<-AB] at a ⊢;simp[Builtin.clear_,run_underlying underlying77,Value.cells,a]
theorem pU (i m c:Nat) (a:Option Addr) (e:List Value) (w:World) (p:w.ownsRow 0 66 1 (.slice a (m+1) c) (m+1) e) (ai:i<=m) (aj:m<=1000) (I:∀ q ∈ e,q.oneCell'=true) :
  Calls prog 109 #[.slice a (m+1) c,.int .i64 i,.int .i64 ((i:Int)+1)] w fun h J=>h=.returned (.slice a m c)∧J.ownsRow 0 66 1 (.slice a m c) m (e.take (i)++e.drop ((i+1)))∧Fr (fun j=>(Value.slice a (m+1) c).ownBlock=some j) w J:=by
 obtain⟨V,K,W,r,X⟩:=info_parts nr;have L:=p.1;rcases p.2 with ⟨h,ak⟩ | ⟨b,al,l,h,_,s,Y,M,t,N⟩;·omega
 simp only[Value.slice.injEq] at h;obtain⟨rfl,_,rfl⟩:=h;have O:∀ (b E k:Nat),(⟨b,E,none⟩:Addr).add k=⟨b,E+k,none⟩:=fun b E k=>by simp[Addr.add]
 obtain⟨d,u⟩:∃ d:Array Value,(l.toList.take (i*1)++e.drop ((i+1)*1)++l.toList.drop (i*1+(e.drop ((i+1)*1)).length)).toArray=d:=⟨_,rfl⟩;have v:=vB l.toList e (i*1) 1 ((m+1)*1) (by omega) N (by omega) (by simp[t];omega);rw[show i*1+1=(i+1)*1 by omega] at v;have x:d.size=c*1:=by rw[<-u];simpa[t] using v.2
 have Q:d.toList.take (m*1)=e.take (i*1)++e.drop ((i+1)*1):=by rw[<-u];have:=v.1;rw[show (m+1)*1 - 1=m*1 by omega] at this;exact this
 have R:=setRow_heap w.drew b l d _ _ s;have am:=Za s;have y:(e.drop ((i+1)*1)).length=(m - i)*1:=by rw[Es,L];omega
 have n:∀ f (z:Addr) g,(i<m->z=⟨b,(i+1)*1,none⟩)->(Builtin.append_ #[77,77] f #[.slice (some ⟨b,0,none⟩) i c,.slice (some z) (m - i) g]).run prog w.drew=.ok (.slice (some ⟨b,0,none⟩) m c) (w.drew.setRow b d):=fun f z g Z=>by have A:=run_append_room (P:=prog) (w:=w.drew) 77 f 66 V underlying77 K b i c l s z (m - i) g (e.drop ((i+1)*1)) (by rw[r,y]) (fun F q o=>by have aa:=Zc o;rw[y] at aa;rw[Z (by omega),O];rw[Eu] at o;have:=p.cellAt ((i+1)*1+F) (by omega);exact this.trans o) (fun q ab=>I q (Ef ab)) (by omega) (by rw[r,y,t];omega);rw[r,u,show i+(m - i)=m by omega] at A;exact A
 have B:(w.drew.setRow b d).ownsRow 0 66 1 (.slice (some ⟨b,0,none⟩) (m+1) c) (m+1) (d.toList.take ((m+1)*1)):=⟨by rw[D3,Array.length_toList,x];omega,.inr ⟨b,c,d,rfl,D0 _,R,Y,M,x,rfl⟩⟩;have G:∀ f g,(Builtin.clear_ #[77] f #[.slice (some ⟨b,m*1,none⟩) 1 g]).run prog (w.drew.setRow b d)=.ok (.tuple #[]) ((w.drew.setRow b d).setCells b (m*1) [.nilIface]):=fun f g =>qP _ f b (m*1) g (fun F o=>by rw[B.cellAt _ (by omega),DQ (by rw[D3,Array.length_toList,x];omega)];rfl) (fun F o=>B.frozenAt _);obtain⟨ac,q1,q2,q3⟩:=iJ [.nilIface] (m*1) _ _ B;have C:=vA q1 (show m<=m+1 by omega);rw[q2,List.take_take,Nat.min_eq_left (by omega),Q] at C;have S:Fr (fun j=>(Value.slice (some ⟨b,0,none⟩) (m+1) c).ownBlock=some j) w (w.drew.setRow b d):=⟨rfl,rfl,rfl,by simp,fun k an ad=>by have ae:k≠b:=fun h=>ad (by rw[h];rfl);rw[setRow_other _ b k d ae];rfl⟩;have H:=S.trans (q3.weak (T:=fun j=>(Value.slice (some ⟨b,0,none⟩) (m+1) c).ownBlock=some j) (fun ao h=>by subst h;rfl));have af:=M;unfold maxLen at af;simp only[EV] at n G C H;have U:Hid (((w.drew.setRow b d).setCells b (m) [.nilIface]).ownsRow 0 66 1 (.slice (some ⟨b,0,none⟩) m c) m (e.take (i)++e.drop ((i+1)))∧Fr (fun j=>(Value.slice (some ⟨b,0,none⟩) (m+1) c).ownBlock=some j) w ((w.drew.setRow b d).setCells b (m) [.nilIface])):=⟨C,H⟩;clear q1 q2 q3 C S H B v x Q R y p s t N L I ac u W r X K O;have ap:¬ ((i:Int)=(i:Int)+1):=by omega
 have aq:(i:Int)+1<=(m:Int)+1:=by omega
 have ar:(i:Int)<=(m:Int)+1:=by omega
 have au:((i:Int)+1).toNat=i+1:=by omega
 have av:((m:Int)+1).toNat=m+1:=by omega
 have aw:(0:Int)<=(i:Int)+1:=by omega
 have ax:¬ (c=m):=by omega
 have ay:m+1 - (i+1)=m - i:=by omega
 have az:m+1 - m=1:=by omega
 have aA:i<=i+1:=by omega
 have aB:i<=c:=by omega
 have aC:i+1<=m+1:=by omega
 have aD:(i:Int)<=(i:Int)+1:=by omega
 by_cases ag:c=i+1
 ·have ah:m=i:=(by omega);have D:∀ f g,_:=fun f g=>n f ⟨b,0,none⟩ g (fun A=>by omega);subst ah;subst ag;clear n;simp only[Nat.sub_self] at D;go_enter func109,ntmps109;go_wp2_with fail
  go_region_law (refine eK rfl _ _ 77 rfl (.slice (some ⟨b,0,none⟩) m (m+1)) (.slice (some ⟨b,0,none⟩) 0 0) (by simp[Act.eval,Act.put]) (by simp[Act.eval,Act.put]) (D _ _) ?_)
  go_wp2_with (simp only[G])
  go_ret;exact⟨rfl,U.out⟩
 ·have D:∀ f g,_:=fun f g=>n f ⟨b,(i+1),none⟩ g (fun A=>rfl);clear n;go_enter func109,ntmps109;go_wp2_with fail
  go_region_law (refine eK rfl _ _ 77 rfl (.slice (some ⟨b,0,none⟩) i c) (.slice (some ⟨b,(i+1),none⟩) (m - i) (c - (i+1))) (by simp[Act.eval,Act.put]) (by simp[Act.eval,Act.put]) (D _ _) ?_)
  go_wp2_with (simp only[G])
  go_ret;exact⟨rfl,U.out⟩
abbrev dP:ByteArray × ByteArray:=(ByteArray.empty,ByteArray.empty)
def Do (zs:List (ByteArray × ByteArray)) (j:Nat):Bool:=cy (zs.getD j dP).1 && decide ((zs.getD j dP).2.size<=400) && (decide (j=0) || aH (zs.getD (j - 1) dP).1 (zs.getD j dP).1)
def Cq (zs:List (ByteArray × ByteArray)):Bool:=(List.range zs.length).all (Do zs)
def nQ (zs:List (ByteArray × ByteArray)):List TN:=if Cq zs=false then [] else if zs.length=0 then [⟨true,0,[],[],[],[]⟩] else if 1000<(BS zs).nodes then [] else (BS zs).flat 0
def Da (w:World) (zs:List (ByteArray × ByteArray)) (e:Ending) (w':World):Prop:=∃ oa oc us,e=.returned (.agg #[.slice oa (nQ zs).length oc])∧cj w' w.heap.size (.slice oa (nQ zs).length oc) ((nQ zs).map TN.nd) us∧Below w.heap.size w w'
theorem ja (zs:List (ByteArray × ByteArray)) (k v:ByteArray):ms (zs++[(k,v)])=ms zs++[(k,v,0)]:=by simp[ms]
def DK (zs:List (ByteArray × ByteArray)):Prop:=∀ z ∈ zs,z.1.size<=1000∧z.2.size<=1000
theorem vX (zs:List (ByteArray × ByteArray)) (j:Nat) (h:j<zs.length):(aa aG (ms zs))[j*2]?=some (.string (zs.getD j dP).1)∧(aa aG (ms zs))[j*2+1]?=some (.string (zs.getD j dP).2):=by
 have a:j<(ms zs).length:=by simp[ms];exact h
 have d:(ms zs).getD j (ByteArray.empty,ByteArray.empty,0)=((zs.getD j dP).1,(zs.getD j dP).2,0):=by simp[ms,List.getD,h]
 have b:=bI Cf (ByteArray.empty,ByteArray.empty,0) (ms zs) j 0 a (by omega);have c:=bI Cf (ByteArray.empty,ByteArray.empty,0) (ms zs) j 1 a (by omega);rw[d] at b c;exact⟨b,c⟩
end Go.Proofs.YtgcedpmagmmikaaGreat
