import Derived.Test.YtggmghkcdfjdoaaGreatHTgh
import Derived.Shelf.Spec.SlicesInsertGrow
import Derived.Laws.CopyRow
namespace Go.Proofs.YtggmghkcdfjdoaaGreat
set_option maxHeartbeats 1000000
open Go.RowKit Tryz
set_option linter.unusedVariables false
set_option linter.unusedSimpArgs false
set_option maxRecDepth 100000
theorem de {P:Program} (w:World) (dT i ty c:TypeId) (g o d k:Nat) (a:Addr) (e l:Nat) (b:Array Value) (t:TypeId) (cs:List Value) (s:Nat)
  (m:P.underlying dT=some (.slice c)) (h:(P.info? c).map (·.size)=some s)
  (n:w.heap[g]?=some (.cells b t (0,0))) (p:cs.length=Nat.min e d*s)
  (q:∀ j v,cs[j]?=some v->w.cell? (a.add j)=some v) (r:o+cs.length<=b.size) (u:∀ v ∈ cs,v.oneCell'=true) :
  (Builtin.copy_ #[dT,i] ty #[.slice (some ⟨g,o,none⟩) d k,.slice (some a) e l]).run P w =
   .ok (goInt (Nat.min e d)) (w.setRow g (b.toList.take o++cs++b.toList.drop (o+cs.length)).toArray):=by
 have x:=run_loadCells_list (P:=P) w a cs q;have y:=run_storeCells_at P g o t cs 0 b w n (by simpa using r) u;cases f:P.info? c with
 | none=>simp[f] at h
 |some z=>have A:z.size=s:=(by simpa[f] using h);simp[Builtin.copy_,run_underlying m,Builtin.lenOf,Builtin.firstCells,sizeOf,typeInfo,f,A,<-p,x,y]
theorem po {b:Type} (R a x:List b) (p q m:Nat) (e:p<=a.length) (f:x.length=q) (g:R.length=m) (h:a.length+q<=m) (c:R.take p=a.take p) :
  ((R.take p++x++R.drop (p+q)).take (p+q)++a.drop p++(R.take p++x++R.drop (p+q)).drop (p+q+(a.length - p))).take (a.length+q)=a.take p++x++a.drop p:=by
 have d:(R.take p++x++R.drop (p+q)).take (p+q)=a.take p++x:=by rw[EM (by simp;omega),Ey (by simp;omega),c]
 rw[d,EM (by simp;omega),Ey (by simp;omega)]
theorem rr {b:Type} (C a x:List b) (p q m:Nat) (c:p<=a.length) (h:x.length=q) (i:C.length=m) (j:a.length+q<=m) (d:C.take a.length=a) :
  ((C.take (p+q)++a.drop p++C.drop (p+q+(a.length - p))).take p++x++(C.take (p+q)++a.drop p++C.drop (p+q+(a.length - p))).drop (p+q)).take (a.length+q)=a.take p++x++a.drop p:=by
 have e:C.take p=a.take p:=by
  have:=congrArg (List.take p) d
  rwa [List.take_take,Nat.min_eq_left c] at this
 have f:(C.take (p+q)++a.drop p++C.drop (p+q+(a.length - p))).take p=a.take p:=by rw[EA,EM (by simp;omega),List.take_take,Nat.min_eq_left (by omega),e]
 have g:(C.take (p+q)++a.drop p++C.drop (p+q+(a.length - p))).drop (p+q)=a.drop p++C.drop (p+q+(a.length - p)):=by rw[EA,Fh (by simp;omega),List.drop_of_length_le (by simp;omega),ED]
 rw[f,g,<-EA,EM (by simp;omega),Ey (by simp;omega)]
theorem et {a:Type} (C x:List a) (p q m:Nat) (b:x.length=q) (c:C.length=m) (h:p+q<=m):(C.take p++x++C.drop (p+q)).toArray.size=m:=by
 simp[b,c];omega
theorem sR {w w':World} {g:Nat} (h:Below w.heap.size w w') (v:Option Nat):w.grownBy w' v:=⟨h.os,h.tape,h.output,h.size,fun a b _=>h.block a b⟩
theorem uO (i n c f b N a:Nat) (o e g:Array Value) (w d:World) (p:i<n) (q:n<=1000) (r:c<n+1) (s:n<=c) (t:n+1<=a) (u:a<=9223372036854775807)
  (h:∀ ty,(Builtin.append_ #[119,3] ty #[.slice (some ⟨b,0,none⟩) i c,.int .i64 ((n:Int)+1 - (i:Int))]).run prog w=.ok (.slice (some ⟨N,0,none⟩) (n+1) a) d)
  (j:∀ ty dc,(Builtin.copy_ #[119,119] ty #[.slice (some ⟨N,i*3,none⟩) (n+1 - i) dc,.slice (some ⟨f,0,none⟩) 1 1]).run prog d=.ok (goInt 1) (d.setRow N e))
  (k:∀ ty dc sc,(Builtin.copy_ #[119,119] ty #[.slice (some ⟨N,(i+1)*3,none⟩) (n - i) dc,.slice (some ⟨b,i*3,none⟩) (n - i) sc]).run prog (d.setRow N e).drew=.ok (goInt ((n - i:Nat):Int)) ((d.setRow N e).drew.setRow N g)) :
  Calls prog 119 #[.slice (some ⟨b,0,none⟩) n c,.int .i64 i,.slice (some ⟨f,0,none⟩) 1 1] w fun l m=>l=.returned (.slice (some ⟨N,0,none⟩) (n+1) a)∧m=(d.setRow N e).drew.setRow N g:=by
 have v:(0:Int)<=(i:Int)+1:=by omega
 have x:¬ ((i:Int)=(n:Int)):=by omega
 have y:IntKind.i64.wrap ((i:Int)+1)=(i:Int)+1:=by rw[Fa];omega
 have z:((i:Int)+1).toNat=i+1:=by omega
 have A:¬ (c=i):=by omega
 have B:¬ (a=i):=by omega
 have C:¬ (a=i+1):=by omega
 have D:(c:Int)<(n:Int)+1:=by omega
 have E:i<=n:=by omega
 have F:(i:Int)<=(n:Int):=by omega
 go_enter func119,ntmps119
 go_wp2_with (first
  | (at_builtin;refine Lib.wpList_append_run _ rfl _ _ _ _ rfl _ _ rfl rfl _ _ (h _) ?_)
  | (at_builtin;refine wpList_copy_runI _ rfl _ _ 119 119 rfl (.slice (some ⟨N,i*3,none⟩) (n+1 - i) (a - i)) (.slice (some ⟨f,0,none⟩) 1 1) (by simp[Act.eval,Act.put]) (by simp[Act.eval,Act.put]) (j _ _) ?_))
 go_region_law (refine step_copy_runI rfl _ _ 119 119 rfl (.slice (some ⟨N,(i+1)*3,none⟩) (n - i) (a - (i+1))) (.slice (some ⟨b,i*3,none⟩) (n - i) (c - i)) (by simp[Act.eval,Act.put]) (by simp[Act.eval,Act.put]) (k _ _ _) ?_)
 go_wp2
 go_ret;exact⟨rfl,rfl⟩
theorem sS (i n c a b f g k l:Nat) (d m:Array Value) (w:World) (A:i<n) (B:n<=1000) (C:n+1<=c) (D:c<=9223372036854775807) (o:a≠b)
  (p:w.shape? a=some (k,f)) (q:w.shape? b=some (l,g)) (r:g≠0) (s:w.frozen? ⟨a,0,none⟩=false) (t:w.frozen? ⟨a,f,none⟩=false)
  (u:∀ ty dc sc,(Builtin.copy_ #[119,119] ty #[.slice (some ⟨b,(i+1)*3,none⟩) (n - i) dc,.slice (some ⟨b,i*3,none⟩) (n+1 - i) sc]).run prog w.drew=.ok (goInt ((n - i:Nat):Int)) (w.drew.setRow b d))
  (v:∀ ty dc,(Builtin.copy_ #[119,119] ty #[.slice (some ⟨b,i*3,none⟩) (n+1 - i) dc,.slice (some ⟨a,0,none⟩) 1 1]).run prog (w.drew.setRow b d)=.ok (goInt 1) ((w.drew.setRow b d).setRow b m)) :
  Calls prog 119 #[.slice (some ⟨b,0,none⟩) n c,.int .i64 i,.slice (some ⟨a,0,none⟩) 1 1] w fun x y=>x=.returned (.slice (some ⟨b,0,none⟩) (n+1) c)∧y=(w.drew.setRow b d).setRow b m:=by
 have E:(0:Int)<=(i:Int)+1:=by omega
 have F:¬ ((i:Int)=(n:Int)):=by omega
 have z:∀ h j,(callFunc 123 #[.slice (some ⟨a,0,none⟩) 1 1,.slice (some ⟨b,(i+1)*3,none⟩) h j]).run prog w=.ok (.value (.bool false)) w:=fun h j=>by
  rw[run_callFunc_extern func123 (by kernel_rfl) (by kernel_rfl) (by kernel_rfl) (e:=Extern.SlicesOverlaps.overlaps #[119,119] #[4]) (by kernel_rfl),
   Lib.run_overlaps_apart w 119 4 75 underlying119 3 (fun w=>by kernel_rfl) ⟨a,0,none⟩ ⟨b,(i+1)*3,none⟩ 1 1 h j o k l f g p q r s t]
  rfl
 have G:IntKind.i64.wrap ((i:Int)+1)=(i:Int)+1:=by rw[Fa];omega
 have H:((i:Int)+1).toNat=i+1:=by omega
 have I:¬ (c=i):=by omega
 have J:¬ (c=i+1):=by omega
 have K:i<=n:=by omega
 have L:(i:Int)<=(n:Int)+1:=by omega
 go_enter func119,ntmps119;go_wp2_with (simp only[z])
 go_region_law (refine step_copy_runI rfl _ _ 119 119 rfl (.slice (some ⟨b,(i+1)*3,none⟩) (n - i) (c - (i+1))) (.slice (some ⟨b,i*3,none⟩) (n+1 - i) (c - i)) (by simp[Act.eval,Act.put]) (by simp[Act.eval,Act.put]) (u _ _ _) ?_)
 go_wp2_with (at_builtin;refine wpList_copy_runI _ rfl _ _ 119 119 rfl (.slice (some ⟨b,i*3,none⟩) (n+1 - i) (c - i)) (.slice (some ⟨a,0,none⟩) 1 1) (by simp[Act.eval,Act.put]) (by simp[Act.eval,Act.put]) (v _ _) ?_)
 go_ret;exact⟨rfl,rfl⟩
theorem pp (i n c m:Nat) (a:Option Addr) (g x:List Value) (w:World) (B:w.ownsRow 0 75 3 (.slice a n c) n g) (aJ:i<=n) (an:n<=1000) (y:x.length=3) (H:w.heap[m]?=some (.cells x.toArray 75)) (aK:(Value.slice a n c).ownBlock≠some m) (X:∀ d ∈ x,d.oneCell'=true) (aL:∀ d ∈ g,d.oneCell'=true) :
  Calls prog 119 #[.slice a n c,.int .i64 i,.slice (some ⟨m,0,none⟩) 1 1] w fun k Q=>∃ u v,k=.returned (.slice u (n+1) v)∧Q.ownsRow 0 75 3 (.slice u (n+1) v) (n+1) (g.take (i*3)++x++g.drop (i*3))∧w.grownBy Q (Value.slice a n c).ownBlock∧((Value.slice u (n+1) v).ownBlock=(Value.slice a n c).ownBlock∨∀ C,(Value.slice u (n+1) v).ownBlock=some C->w.heap.size<=C):=by
 obtain⟨R,Y,ap,Z,aa⟩:=info_parts iN;have L:=B.1;have a8:=Za H;have S:∀ f d,x[f]?=some d->w.cell? ⟨m,f,none⟩=some d:=fun f d j=>by simp[World.cell?,H,j]
 have I:∀ (b ab s:Nat),(⟨b,ab,none⟩:Addr).add s=⟨b,ab+s,none⟩:=fun b ab s=>by simp[Addr.add]
 by_cases aM:i=n
 ·subst aM;have aN:Hid (g.take (i*3)++x++g.drop (i*3)=g++x):=(by show _=_;rw[Ey (by omega),List.drop_of_length_le (by omega),EN]);rw[aN.out];have aO:∀ f d,x[f]?=some d->w.cell? ((⟨m,0,none⟩:Addr).add f)=some d:=fun f d j=>(by rw[I,EK];exact S f d j);have aq:Hid (a=none∨∃ b,a=some ⟨b,0,none⟩):=by
   rcases B.2 with ⟨k,_⟩ | ⟨b,ar,A,k,_⟩;·simp only[Value.slice.injEq] at k;exact .inl k.1
   ·simp only[Value.slice.injEq] at k;exact .inr ⟨b,k.1⟩
  have J:i<=c∧c<=maxLen:=by
   rcases B.2 with ⟨k,aP⟩ | ⟨b,ar,A,k,_,_,aQ,aR,_⟩;·simp only[Value.slice.injEq] at k;exact⟨by omega,by omega⟩
   ·simp only[Value.slice.injEq] at k;obtain⟨_,_,rfl⟩:=k;exact⟨aQ,aR⟩
  have a9:=J.1;have T:=J.2;unfold maxLen at T;clear H S aJ J;rcases aq.out with rfl | ⟨b,rfl⟩
  all_goals
   have au:Hid _:=B;clear B aq;go_enter func119,ntmps119;go_wp2_with (at_builtin;refine ak _ rfl _ _ 119 rfl 0 75 R _ 3 40 underlying119 Y ap Z aa rfl (by decide) _ i g rfl au.out ⟨m,0,none⟩ 1 1 x rfl (by omega) aO X (by unfold maxLen;omega) (by omega) (En _) ?_;intro a' ba ac av aw;obtain⟨u,v,rfl⟩:=ao ac;have aS:Hid _:=ac;have aT:Hid _:=av;have aU:Hid _:=aw;clear ac av aw au)
   all_goals (go_ret;exact⟨u,v,rfl,aS.out,aT.out,aU.out⟩)
 ·have ax:i<n:=(by omega);rcases B.2 with ⟨k,aP⟩ | ⟨b,ar,A,k,_,U,aV,J,ad,aW⟩;·omega
  simp only[Value.slice.injEq] at k;obtain⟨rfl,_,rfl⟩:=k;have ay:b≠m:=fun k=>aK (by rw[k];rfl);have bb:=Za U;have ae:∀ f d,g[f]?=some d->w.cell? ⟨b,f,none⟩=some d:=fun f d j=>(by have bc:=Zc j;rw[B.cellAt f (by omega)];exact j);have V:(prog.info? 75).map (·.size)=some 3:=(by rw[Y];simp[Z]);have bd:¬ ((i:Int)=(n:Int)):=(by omega);have W:Nat.min 1 (n+1 - i)=1:=Nat.min_eq_left (by omega);have z:(g.drop (i*3)).length=(n - i)*3:=(by rw[ET,L];omega);have az:∀ d ∈ g.drop (i*3),d.oneCell'=true:=fun d aX=>aL d (EF aX);have T:=J;unfold maxLen at T;have be:IntKind.i64.wrap ((i:Int)+1)=(i:Int)+1:=(by rw[Fa];omega);have bf:((i:Int)+1).toNat=i+1:=(by omega);by_cases aY:c<n+1
  ·have bg:c=n:=(by omega);obtain⟨K,aA⟩:∃ K:Value,R.zero=some K∧K.cells.size=3:=⟨_,ap,rfl⟩;have aZ:(Builtin.firstCells R.size i (.slice (some ⟨b,0,none⟩) i c)).run prog w.drew=.ok (g.take (i*3)).toArray w.drew:=by
    rw[Z];exact run_firstCells_some w.drew 3 i ⟨b,0,none⟩ i c (g.take (i*3)) (by rw[Eu];omega) (fun f d j=>by
     rw[I,EK];rw[E9] at j;split at j;·exact ae f d j
     ·cases j)
   have aB:i+(n+1 - i)=n+1:=(by omega);have a0:(n:Int)+1 - (i:Int)=((n+1 - i:Nat):Int):=(by omega);obtain⟨t,af⟩:∃ t,t=grownCap w (n+1) c 75:=⟨_,rfl⟩;obtain⟨r,ag⟩:∃ r:Array Value,r=(g.take (i*3)).toArray++Builtin.zeroCells K.cells (n+1 - i)++Builtin.zeroCells K.cells (t - (n+1)):=⟨_,rfl⟩;have aC:n+1<=t:=(by rw[af];exact grownCap_ge w _ _ _);have aD:t<=maxLen:=(by rw[af];exact grownCap_le_maxLen w (n+1) c _ (by unfold maxLen;omega));have aE:=aD;unfold maxLen at aE;have aF:∀ l,(Builtin.append_ #[119,3] l #[.slice (some ⟨b,0,none⟩) i c,.int .i64 ((n:Int)+1 - (i:Int))]).run prog w=.ok (.slice (some ⟨w.heap.size,0,none⟩) (n+1) t) (w.drew.alloc (.cells r 75)):=fun l=>(by have aG:=Lib.run_append_grow_zeros w 119 3 l 75 R K .i64 .i64 underlying119 underlying3 Y aA.1 (some ⟨b,0,none⟩) i c (g.take (i*3)) aZ (n+1 - i) (by omega) (by omega) (by omega) (by omega) (by rw[aa];omega) (by rw[aa,aB];exact growslice_fits (by omega) (by omega));rw[aB,<-af,<-ag] at aG;rw[a0];exact aG);have ah:r.size=t*3:=(by rw[ag];simp[Builtin.zeroCells,aA.2,L];omega);have a1:r.toList.take (i*3)=g.take (i*3):=(by rw[ag];simp only[Array.toList_append,EA];rw[EM (by simp;omega),Ey (by simp;omega)]);obtain⟨h,ai⟩:=Zn w.heap.size;obtain⟨o,aj⟩:=Zn (w.drew.alloc (.cells r 75));have aH:o.heap[h]?=some (.cells r 75):=(by rw[<-aj,<-ai];exact Ej w.drew _);have D:Below h w o:=(by rw[<-aj,<-ai];exact ((Ev w.heap.size w).drew).alloc (Ek _) _);have a2:∀ f d,g[f]?=some d->o.cell? ⟨b,f,none⟩=some d:=fun f d j=>(Ep (w:=w) (a:=⟨b,f,none⟩) (D.block b (by omega))).trans (ae f d j);have a3:∀ f d,x[f]?=some d->o.cell? ⟨m,f,none⟩=some d:=fun f d j=>(Ep (w:=w) (a:=⟨m,f,none⟩) (D.block m (by omega))).trans (S f d j);obtain⟨e,E⟩:∃ e:Array Value,(r.toList.take (i*3)++x++r.toList.drop (i*3+x.length)).toArray=e:=⟨_,rfl⟩;have al:∀ l q,(Builtin.copy_ #[119,119] l #[.slice (some ⟨h,i*3,none⟩) (n+1 - i) q,.slice (some ⟨m,0,none⟩) 1 1]).run prog o=.ok (goInt 1) (o.setRow h e):=fun l q=>(by have:=de (P:=prog) o 119 119 l 75 h (i*3) (n+1 - i) q ⟨m,0,none⟩ 1 1 r 75 x 3 underlying119 V aH (by rw[W];omega) (fun f d j=>by rw[I,EK];exact a3 f d j) (by rw[ah];omega) X;rw[W,E] at this;exact this);obtain⟨p,F⟩:∃ p:Array Value,(e.toList.take ((i+1)*3)++g.drop (i*3)++e.toList.drop ((i+1)*3+(g.drop (i*3)).length)).toArray=p:=⟨_,rfl⟩;have M:e.size=t*3:=(by rw[<-E,y];exact et r.toList x _ _ _ y (by simpa using ah) (by omega));have N:(o.setRow h e).drew.heap[h]?=some (.cells e 75):=setRow_heap o h r e _ _ aH;have O:Nat.min (n - i) (n - i)=n - i:=Nat.min_self _;have am:∀ l q G,(Builtin.copy_ #[119,119] l #[.slice (some ⟨h,(i+1)*3,none⟩) (n - i) q,.slice (some ⟨b,i*3,none⟩) (n - i) G]).run prog (o.setRow h e).drew=.ok (goInt ((n - i:Nat):Int)) ((o.setRow h e).drew.setRow h p):=fun l q G=>(by have:=de (P:=prog) (o.setRow h e).drew 119 119 l 75 h ((i+1)*3) (n - i) q ⟨b,i*3,none⟩ (n - i) G e 75 (g.drop (i*3)) 3 underlying119 V N (by rw[O,z]<;>omega) (fun f d j=>by rw[I];rw[E2] at j;exact (Ep (w:=o) (a:=⟨b,i*3+f,none⟩) (setRow_other o h b e (by omega))).trans (a2 _ d j)) (by rw[M,z];omega) az;rw[O,F] at this;exact this);have a4:Hid (∃ u v,Ending.returned (.slice (some ⟨h,0,none⟩) (n+1) t)=.returned (.slice u (n+1) v)∧((o.setRow h e).drew.setRow h p).ownsRow 0 75 3 (.slice u (n+1) v) (n+1) (g.take (i*3)++x++g.drop (i*3))∧w.grownBy ((o.setRow h e).drew.setRow h p) (Value.slice (some ⟨b,0,none⟩) n c).ownBlock∧((Value.slice u (n+1) v).ownBlock=(Value.slice (some ⟨b,0,none⟩) n c).ownBlock∨∀ C,(Value.slice u (n+1) v).ownBlock=some C->w.heap.size<=C)):=by
    refine⟨_,_,rfl,⟨by simp[y,L];omega,.inr ⟨h,t,p,rfl,En _,setRow_heap _ h e p _ _ N,aC,aD,?_,?_⟩⟩,⟨D.os,D.tape,D.output,by simp;have:=D.size;omega,fun s a5 _=>?_⟩,.inr (fun C a6=>?_)⟩;·rw[<-F,z];exact et e.toList (g.drop (i*3)) _ _ _ z (by simpa using M) (by omega)
    ·rw[<-F,<-E,y];have:=po r.toList g x (i*3) 3 (t*3) (by omega) y (by simp[ah]) (by omega) a1;rw[z];rw[show g.length - i*3=(n - i)*3 by omega] at this;simpa[show (i+1)*3=i*3+3 by omega,show (n+1)*3=g.length+3 by omega] using this
    ·rw[setRow_other _ h s p (by omega)];show (o.setRow h e).heap[s]?=_;rw[setRow_other _ h s e (by omega)];exact D.block s (by omega)
    ·have bh:h=C:=(by simpa[Value.ownBlock] using a6);omega
   rw[ai,aj] at aF;refine (uO i n c m b h t r e p w o ax an aY aV aC aE aF al am).mono ?_;rintro k Q ⟨rfl,rfl⟩;exact a4.out
  ·have O:Nat.min (n+1 - i) (n - i)=n - i:=Nat.min_eq_right (by omega);obtain⟨e,E⟩:∃ e:Array Value,(A.toList.take ((i+1)*3)++g.drop (i*3)++A.toList.drop ((i+1)*3+(g.drop (i*3)).length)).toArray=e:=⟨_,rfl⟩;have al:∀ l q G,(Builtin.copy_ #[119,119] l #[.slice (some ⟨b,(i+1)*3,none⟩) (n - i) q,.slice (some ⟨b,i*3,none⟩) (n+1 - i) G]).run prog w.drew=.ok (goInt ((n - i:Nat):Int)) (w.drew.setRow b e):=fun l q G=>(by have:=de (P:=prog) w.drew 119 119 l 75 b ((i+1)*3) (n - i) q ⟨b,i*3,none⟩ (n+1 - i) G A 75 (g.drop (i*3)) 3 underlying119 V U (by rw[O,z]<;>omega) (fun f d j=>by rw[I];rw[E2] at j;exact ae _ d j) (by rw[ad,z];omega) az;rw[O,E] at this;exact this);have M:e.size=c*3:=(by rw[<-E,z];exact et A.toList (g.drop (i*3)) _ _ _ z (by simpa using ad) (by omega));have N:=setRow_heap w.drew b A e _ _ U;obtain⟨p,F⟩:∃ p:Array Value,(e.toList.take (i*3)++x++e.toList.drop (i*3+x.length)).toArray=p:=⟨_,rfl⟩;have am:∀ l q,(Builtin.copy_ #[119,119] l #[.slice (some ⟨b,i*3,none⟩) (n+1 - i) q,.slice (some ⟨m,0,none⟩) 1 1]).run prog (w.drew.setRow b e)=.ok (goInt 1) ((w.drew.setRow b e).setRow b p):=fun l q=>(by have:=de (P:=prog) (w.drew.setRow b e) 119 119 l 75 b (i*3) (n+1 - i) q ⟨m,0,none⟩ 1 1 e 75 x 3 underlying119 V N (by rw[W];omega) (fun f d j=>by rw[I,EK];exact (Ep (w:=w) (a:=⟨m,f,none⟩) (setRow_other w.drew b m e (Ne.symm ay))).trans (S f d j)) (by rw[M];omega) X;rw[W,F] at this;exact this);refine (sS i n c m b x.length A.size 75 75 e p w ax an (by omega) T (Ne.symm ay) (by simp[World.shape?,H]) (by simp[World.shape?,U]) (by omega) (by simp[World.frozen?,H]) (by simp[World.frozen?,H]) al am).mono ?_;rintro k Q ⟨rfl,rfl⟩;refine⟨_,_,rfl,⟨by simp[y,L];omega,.inr ⟨b,c,p,rfl,En _,setRow_heap _ b e p _ _ N,by omega,J,?_,?_⟩⟩,⟨rfl,rfl,rfl,by simp,fun s a5 a7=>?_⟩,.inl rfl⟩;·rw[<-F,y];exact et e.toList x _ _ _ y (by simpa using M) (by omega)
   ·rw[<-F,<-E,y,z];have:=rr A.toList g x (i*3) 3 (c*3) (by omega) y (by simpa using ad) (by omega) (by rw[L];exact aW);rw[show g.length - i*3=(n - i)*3 by omega] at this;simpa[show (i+1)*3=i*3+3 by omega,show (n+1)*3=g.length+3 by omega] using this
   ·have aI:s≠b:=fun k=>a7 (by rw[k];rfl);rw[setRow_other _ b s p aI,setRow_other _ b s e aI];rfl
theorem uP (i n c f b N a:Nat) (o e g:Array Value) (w d:World) (p:i<n) (q:n<=1000) (r:c<n+1) (s:n<=c) (t:n+1<=a) (u:a<=9223372036854775807)
  (h:∀ ty,(Builtin.append_ #[79,3] ty #[.slice (some ⟨b,0,none⟩) i c,.int .i64 ((n:Int)+1 - (i:Int))]).run prog w=.ok (.slice (some ⟨N,0,none⟩) (n+1) a) d)
  (j:∀ ty dc,(Builtin.copy_ #[79,79] ty #[.slice (some ⟨N,i,none⟩) (n+1 - i) dc,.slice (some ⟨f,0,none⟩) 1 1]).run prog d=.ok (goInt 1) (d.setRow N e))
  (k:∀ ty dc sc,(Builtin.copy_ #[79,79] ty #[.slice (some ⟨N,(i+1),none⟩) (n - i) dc,.slice (some ⟨b,i,none⟩) (n - i) sc]).run prog (d.setRow N e).drew=.ok (goInt ((n - i:Nat):Int)) ((d.setRow N e).drew.setRow N g)) :
  Calls prog 100 #[.slice (some ⟨b,0,none⟩) n c,.int .i64 i,.slice (some ⟨f,0,none⟩) 1 1] w fun l m=>l=.returned (.slice (some ⟨N,0,none⟩) (n+1) a)∧m=(d.setRow N e).drew.setRow N g:=by
 have v:(0:Int)<=(i:Int)+1:=by omega
 have x:¬ ((i:Int)=(n:Int)):=by omega
 have y:IntKind.i64.wrap ((i:Int)+1)=(i:Int)+1:=by rw[Fa];omega
 have z:((i:Int)+1).toNat=i+1:=by omega
 have A:¬ (c=i):=by omega
 have B:¬ (a=i):=by omega
 have C:¬ (a=i+1):=by omega
 have D:(c:Int)<(n:Int)+1:=by omega
 have E:i<=n:=by omega
 have F:(i:Int)<=(n:Int):=by omega
 go_enter func100,ntmps100
 go_wp2_with (first
  | (at_builtin;refine Lib.wpList_append_run _ rfl _ _ _ _ rfl _ _ rfl rfl _ _ (h _) ?_)
  | (at_builtin;refine wpList_copy_runI _ rfl _ _ 79 79 rfl (.slice (some ⟨N,i,none⟩) (n+1 - i) (a - i)) (.slice (some ⟨f,0,none⟩) 1 1) (by simp[Act.eval,Act.put]) (by simp[Act.eval,Act.put]) (j _ _) ?_))
 go_region_law (refine step_copy_runI rfl _ _ 79 79 rfl (.slice (some ⟨N,(i+1),none⟩) (n - i) (a - (i+1))) (.slice (some ⟨b,i,none⟩) (n - i) (c - i)) (by simp[Act.eval,Act.put]) (by simp[Act.eval,Act.put]) (k _ _ _) ?_)
 go_wp2
 go_ret;exact⟨rfl,rfl⟩
theorem sU (i n c a b f g k l:Nat) (d m:Array Value) (w:World) (A:i<n) (B:n<=1000) (C:n+1<=c) (D:c<=9223372036854775807) (o:a≠b)
  (p:w.shape? a=some (k,f)) (q:w.shape? b=some (l,g)) (r:g≠0) (s:w.frozen? ⟨a,0,none⟩=false) (t:w.frozen? ⟨a,f,none⟩=false)
  (u:∀ ty dc sc,(Builtin.copy_ #[79,79] ty #[.slice (some ⟨b,(i+1),none⟩) (n - i) dc,.slice (some ⟨b,i,none⟩) (n+1 - i) sc]).run prog w.drew=.ok (goInt ((n - i:Nat):Int)) (w.drew.setRow b d))
  (v:∀ ty dc,(Builtin.copy_ #[79,79] ty #[.slice (some ⟨b,i,none⟩) (n+1 - i) dc,.slice (some ⟨a,0,none⟩) 1 1]).run prog (w.drew.setRow b d)=.ok (goInt 1) ((w.drew.setRow b d).setRow b m)) :
  Calls prog 100 #[.slice (some ⟨b,0,none⟩) n c,.int .i64 i,.slice (some ⟨a,0,none⟩) 1 1] w fun x y=>x=.returned (.slice (some ⟨b,0,none⟩) (n+1) c)∧y=(w.drew.setRow b d).setRow b m:=by
 have E:(0:Int)<=(i:Int)+1:=by omega
 have F:¬ ((i:Int)=(n:Int)):=by omega
 have z:∀ h j,(callFunc 105 #[.slice (some ⟨a,0,none⟩) 1 1,.slice (some ⟨b,(i+1),none⟩) h j]).run prog w=.ok (.value (.bool false)) w:=fun h j=>by
  rw[run_callFunc_extern func105 (by kernel_rfl) (by kernel_rfl) (by kernel_rfl) (e:=Extern.SlicesOverlaps.overlaps #[79,79] #[4]) (by kernel_rfl),
   Lib.run_overlaps_apart w 79 4 68 underlying79 1 (fun w=>by kernel_rfl) ⟨a,0,none⟩ ⟨b,(i+1),none⟩ 1 1 h j o k l f g p q r s t]
  rfl
 have G:IntKind.i64.wrap ((i:Int)+1)=(i:Int)+1:=by rw[Fa];omega
 have H:((i:Int)+1).toNat=i+1:=by omega
 have I:¬ (c=i):=by omega
 have J:¬ (c=i+1):=by omega
 have K:i<=n:=by omega
 have L:(i:Int)<=(n:Int)+1:=by omega
 go_enter func100,ntmps100;go_wp2_with (simp only[z])
 go_region_law (refine step_copy_runI rfl _ _ 79 79 rfl (.slice (some ⟨b,(i+1),none⟩) (n - i) (c - (i+1))) (.slice (some ⟨b,i,none⟩) (n+1 - i) (c - i)) (by simp[Act.eval,Act.put]) (by simp[Act.eval,Act.put]) (u _ _ _) ?_)
 go_wp2_with (at_builtin;refine wpList_copy_runI _ rfl _ _ 79 79 rfl (.slice (some ⟨b,i,none⟩) (n+1 - i) (c - i)) (.slice (some ⟨a,0,none⟩) 1 1) (by simp[Act.eval,Act.put]) (by simp[Act.eval,Act.put]) (v _ _) ?_)
 go_ret;exact⟨rfl,rfl⟩
theorem pq (i n c m:Nat) (a:Option Addr) (g x:List Value) (w:World) (B:w.ownsRow 0 68 1 (.slice a n c) n g) (aJ:i<=n) (an:n<=1000) (y:x.length=1) (H:w.heap[m]?=some (.cells x.toArray 68)) (aK:(Value.slice a n c).ownBlock≠some m) (X:∀ d ∈ x,d.oneCell'=true) (aL:∀ d ∈ g,d.oneCell'=true) :
  Calls prog 100 #[.slice a n c,.int .i64 i,.slice (some ⟨m,0,none⟩) 1 1] w fun k Q=>∃ u v,k=.returned (.slice u (n+1) v)∧Q.ownsRow 0 68 1 (.slice u (n+1) v) (n+1) (g.take (i)++x++g.drop (i))∧w.grownBy Q (Value.slice a n c).ownBlock∧((Value.slice u (n+1) v).ownBlock=(Value.slice a n c).ownBlock∨∀ C,(Value.slice u (n+1) v).ownBlock=some C->w.heap.size<=C):=by
 obtain⟨R,Y,ap,Z,aa⟩:=info_parts nr;have L:=B.1;have a8:=Za H;have S:∀ f d,x[f]?=some d->w.cell? ⟨m,f,none⟩=some d:=fun f d j=>by simp[World.cell?,H,j]
 have I:∀ (b ab s:Nat),(⟨b,ab,none⟩:Addr).add s=⟨b,ab+s,none⟩:=fun b ab s=>by simp[Addr.add]
 by_cases aM:i=n
 ·subst aM;have aN:Hid (g.take (i)++x++g.drop (i)=g++x):=(by show _=_;rw[Ey (by omega),List.drop_of_length_le (by omega),EN]);rw[aN.out];have aO:∀ f d,x[f]?=some d->w.cell? ((⟨m,0,none⟩:Addr).add f)=some d:=fun f d j=>(by rw[I,EK];exact S f d j);have aq:Hid (a=none∨∃ b,a=some ⟨b,0,none⟩):=by
   rcases B.2 with ⟨k,_⟩ | ⟨b,ar,A,k,_⟩;·simp only[Value.slice.injEq] at k;exact .inl k.1
   ·simp only[Value.slice.injEq] at k;exact .inr ⟨b,k.1⟩
  have J:i<=c∧c<=maxLen:=by
   rcases B.2 with ⟨k,aP⟩ | ⟨b,ar,A,k,_,_,aQ,aR,_⟩;·simp only[Value.slice.injEq] at k;exact⟨by omega,by omega⟩
   ·simp only[Value.slice.injEq] at k;obtain⟨_,_,rfl⟩:=k;exact⟨aQ,aR⟩
  have a9:=J.1;have T:=J.2;unfold maxLen at T;clear H S aJ J;rcases aq.out with rfl | ⟨b,rfl⟩
  all_goals
   have au:Hid _:=B;clear B aq;go_enter func100,ntmps100;go_wp2_with (at_builtin;refine ak _ rfl _ _ 79 rfl 0 68 R _ 1 16 underlying79 Y ap Z aa rfl (by decide) _ i g rfl au.out ⟨m,0,none⟩ 1 1 x rfl (by omega) aO X (by unfold maxLen;omega) (by omega) (En _) ?_;intro a' ba ac av aw;obtain⟨u,v,rfl⟩:=ao ac;have aS:Hid _:=ac;have aT:Hid _:=av;have aU:Hid _:=aw;clear ac av aw au)
   all_goals (go_ret;exact⟨u,v,rfl,aS.out,aT.out,aU.out⟩)
 ·have ax:i<n:=(by omega);rcases B.2 with ⟨k,aP⟩ | ⟨b,ar,A,k,_,U,aV,J,ad,aW⟩;·omega
  simp only[Value.slice.injEq] at k;obtain⟨rfl,_,rfl⟩:=k;have ay:b≠m:=fun k=>aK (by rw[k];rfl);have bb:=Za U;have ae:∀ f d,g[f]?=some d->w.cell? ⟨b,f,none⟩=some d:=fun f d j=>(by have bc:=Zc j;rw[B.cellAt f (by omega)];exact j);have V:(prog.info? 68).map (·.size)=some 1:=(by rw[Y];simp[Z]);have bd:¬ ((i:Int)=(n:Int)):=(by omega);have W:Nat.min 1 (n+1 - i)=1:=Nat.min_eq_left (by omega);have z:(g.drop (i)).length=(n - i):=(by rw[ET,L];omega);have az:∀ d ∈ g.drop (i),d.oneCell'=true:=fun d aX=>aL d (EF aX);have T:=J;unfold maxLen at T;have be:IntKind.i64.wrap ((i:Int)+1)=(i:Int)+1:=(by rw[Fa];omega);have bf:((i:Int)+1).toNat=i+1:=(by omega);by_cases aY:c<n+1
  ·have bg:c=n:=(by omega);obtain⟨K,aA⟩:∃ K:Value,R.zero=some K∧K.cells.size=1:=⟨_,ap,rfl⟩;have aZ:(Builtin.firstCells R.size i (.slice (some ⟨b,0,none⟩) i c)).run prog w.drew=.ok (g.take (i)).toArray w.drew:=by
    rw[Z];exact run_firstCells_some w.drew 1 i ⟨b,0,none⟩ i c (g.take (i)) (by rw[Eu];omega) (fun f d j=>by
     rw[I,EK];rw[E9] at j;split at j;·exact ae f d j
     ·cases j)
   have aB:i+(n+1 - i)=n+1:=(by omega);have a0:(n:Int)+1 - (i:Int)=((n+1 - i:Nat):Int):=(by omega);obtain⟨t,af⟩:∃ t,t=grownCap w (n+1) c 68:=⟨_,rfl⟩;obtain⟨r,ag⟩:∃ r:Array Value,r=(g.take (i)).toArray++Builtin.zeroCells K.cells (n+1 - i)++Builtin.zeroCells K.cells (t - (n+1)):=⟨_,rfl⟩;have aC:n+1<=t:=(by rw[af];exact grownCap_ge w _ _ _);have aD:t<=maxLen:=(by rw[af];exact grownCap_le_maxLen w (n+1) c _ (by unfold maxLen;omega));have aE:=aD;unfold maxLen at aE;have aF:∀ l,(Builtin.append_ #[79,3] l #[.slice (some ⟨b,0,none⟩) i c,.int .i64 ((n:Int)+1 - (i:Int))]).run prog w=.ok (.slice (some ⟨w.heap.size,0,none⟩) (n+1) t) (w.drew.alloc (.cells r 68)):=fun l=>(by have aG:=Lib.run_append_grow_zeros w 79 3 l 68 R K .i64 .i64 underlying79 underlying3 Y aA.1 (some ⟨b,0,none⟩) i c (g.take (i)) aZ (n+1 - i) (by omega) (by omega) (by omega) (by omega) (by rw[aa];omega) (by rw[aa,aB];exact growslice_fits (by omega) (by omega));rw[aB,<-af,<-ag] at aG;rw[a0];exact aG);have ah:r.size=t:=(by rw[ag];simp[Builtin.zeroCells,aA.2,L];omega);have a1:r.toList.take (i)=g.take (i):=(by rw[ag];simp only[Array.toList_append,EA];rw[EM (by simp;omega),Ey (by simp;omega)]);obtain⟨h,ai⟩:=Zn w.heap.size;obtain⟨o,aj⟩:=Zn (w.drew.alloc (.cells r 68));have aH:o.heap[h]?=some (.cells r 68):=(by rw[<-aj,<-ai];exact Ej w.drew _);have D:Below h w o:=(by rw[<-aj,<-ai];exact ((Ev w.heap.size w).drew).alloc (Ek _) _);have a2:∀ f d,g[f]?=some d->o.cell? ⟨b,f,none⟩=some d:=fun f d j=>(Ep (w:=w) (a:=⟨b,f,none⟩) (D.block b (by omega))).trans (ae f d j);have a3:∀ f d,x[f]?=some d->o.cell? ⟨m,f,none⟩=some d:=fun f d j=>(Ep (w:=w) (a:=⟨m,f,none⟩) (D.block m (by omega))).trans (S f d j);obtain⟨e,E⟩:∃ e:Array Value,(r.toList.take (i)++x++r.toList.drop (i+x.length)).toArray=e:=⟨_,rfl⟩;have al:∀ l q,(Builtin.copy_ #[79,79] l #[.slice (some ⟨h,i,none⟩) (n+1 - i) q,.slice (some ⟨m,0,none⟩) 1 1]).run prog o=.ok (goInt 1) (o.setRow h e):=fun l q=>(by have:=de (P:=prog) o 79 79 l 68 h (i) (n+1 - i) q ⟨m,0,none⟩ 1 1 r 68 x 1 underlying79 V aH (by rw[W];omega) (fun f d j=>by rw[I,EK];exact a3 f d j) (by rw[ah];omega) X;rw[W,E] at this;exact this);obtain⟨p,F⟩:∃ p:Array Value,(e.toList.take ((i+1))++g.drop (i)++e.toList.drop ((i+1)+(g.drop (i)).length)).toArray=p:=⟨_,rfl⟩;have M:e.size=t:=(by rw[<-E,y];exact et r.toList x _ _ _ y (by simpa using ah) (by omega));have N:(o.setRow h e).drew.heap[h]?=some (.cells e 68):=setRow_heap o h r e _ _ aH;have O:Nat.min (n - i) (n - i)=n - i:=Nat.min_self _;have am:∀ l q G,(Builtin.copy_ #[79,79] l #[.slice (some ⟨h,(i+1),none⟩) (n - i) q,.slice (some ⟨b,i,none⟩) (n - i) G]).run prog (o.setRow h e).drew=.ok (goInt ((n - i:Nat):Int)) ((o.setRow h e).drew.setRow h p):=fun l q G=>(by have:=de (P:=prog) (o.setRow h e).drew 79 79 l 68 h ((i+1)) (n - i) q ⟨b,i,none⟩ (n - i) G e 68 (g.drop (i)) 1 underlying79 V N (by rw[O,z]<;>omega) (fun f d j=>by rw[I];rw[E2] at j;exact (Ep (w:=o) (a:=⟨b,i+f,none⟩) (setRow_other o h b e (by omega))).trans (a2 _ d j)) (by rw[M,z];omega) az;rw[O,F] at this;exact this);have a4:Hid (∃ u v,Ending.returned (.slice (some ⟨h,0,none⟩) (n+1) t)=.returned (.slice u (n+1) v)∧((o.setRow h e).drew.setRow h p).ownsRow 0 68 1 (.slice u (n+1) v) (n+1) (g.take (i)++x++g.drop (i))∧w.grownBy ((o.setRow h e).drew.setRow h p) (Value.slice (some ⟨b,0,none⟩) n c).ownBlock∧((Value.slice u (n+1) v).ownBlock=(Value.slice (some ⟨b,0,none⟩) n c).ownBlock∨∀ C,(Value.slice u (n+1) v).ownBlock=some C->w.heap.size<=C)):=by
    refine⟨_,_,rfl,⟨by simp[y,L];omega,.inr ⟨h,t,p,rfl,En _,setRow_heap _ h e p _ _ N,aC,aD,?_,?_⟩⟩,⟨D.os,D.tape,D.output,by simp;have:=D.size;omega,fun s a5 _=>?_⟩,.inr (fun C a6=>?_)⟩;·rw[<-F,z];exact et e.toList (g.drop (i)) _ _ _ z (by simpa using M) (by omega)
    ·rw[<-F,<-E,y];have:=po r.toList g x (i) 1 (t) (by omega) y (by simp[ah]) (by omega) a1;rw[z];rw[show g.length - i=(n - i) by omega] at this;simpa[show (i+1)=i+1 by omega,show (n+1)=g.length+1 by omega] using this
    ·rw[setRow_other _ h s p (by omega)];show (o.setRow h e).heap[s]?=_;rw[setRow_other _ h s e (by omega)];exact D.block s (by omega)
    ·have bh:h=C:=(by simpa[Value.ownBlock] using a6);omega
   rw[ai,aj] at aF;refine (uP i n c m b h t r e p w o ax an aY aV aC aE aF al am).mono ?_;rintro k Q ⟨rfl,rfl⟩;exact a4.out
  ·have O:Nat.min (n+1 - i) (n - i)=n - i:=Nat.min_eq_right (by omega);obtain⟨e,E⟩:∃ e:Array Value,(A.toList.take ((i+1))++g.drop (i)++A.toList.drop ((i+1)+(g.drop (i)).length)).toArray=e:=⟨_,rfl⟩;have al:∀ l q G,(Builtin.copy_ #[79,79] l #[.slice (some ⟨b,(i+1),none⟩) (n - i) q,.slice (some ⟨b,i,none⟩) (n+1 - i) G]).run prog w.drew=.ok (goInt ((n - i:Nat):Int)) (w.drew.setRow b e):=fun l q G=>(by have:=de (P:=prog) w.drew 79 79 l 68 b ((i+1)) (n - i) q ⟨b,i,none⟩ (n+1 - i) G A 68 (g.drop (i)) 1 underlying79 V U (by rw[O,z]<;>omega) (fun f d j=>by rw[I];rw[E2] at j;exact ae _ d j) (by rw[ad,z];omega) az;rw[O,E] at this;exact this);have M:e.size=c:=(by rw[<-E,z];exact et A.toList (g.drop (i)) _ _ _ z (by simpa using ad) (by omega));have N:=setRow_heap w.drew b A e _ _ U;obtain⟨p,F⟩:∃ p:Array Value,(e.toList.take (i)++x++e.toList.drop (i+x.length)).toArray=p:=⟨_,rfl⟩;have am:∀ l q,(Builtin.copy_ #[79,79] l #[.slice (some ⟨b,i,none⟩) (n+1 - i) q,.slice (some ⟨m,0,none⟩) 1 1]).run prog (w.drew.setRow b e)=.ok (goInt 1) ((w.drew.setRow b e).setRow b p):=fun l q=>(by have:=de (P:=prog) (w.drew.setRow b e) 79 79 l 68 b (i) (n+1 - i) q ⟨m,0,none⟩ 1 1 e 68 x 1 underlying79 V N (by rw[W];omega) (fun f d j=>by rw[I,EK];exact (Ep (w:=w) (a:=⟨m,f,none⟩) (setRow_other w.drew b m e (Ne.symm ay))).trans (S f d j)) (by rw[M];omega) X;rw[W,F] at this;exact this);refine (sU i n c m b x.length A.size 68 68 e p w ax an (by omega) T (Ne.symm ay) (by simp[World.shape?,H]) (by simp[World.shape?,U]) (by omega) (by simp[World.frozen?,H]) (by simp[World.frozen?,H]) al am).mono ?_;rintro k Q ⟨rfl,rfl⟩;refine⟨_,_,rfl,⟨by simp[y,L];omega,.inr ⟨b,c,p,rfl,En _,setRow_heap _ b e p _ _ N,by omega,J,?_,?_⟩⟩,⟨rfl,rfl,rfl,by simp,fun s a5 a7=>?_⟩,.inl rfl⟩;·rw[<-F,y];exact et e.toList x _ _ _ y (by simpa using M) (by omega)
   ·rw[<-F,<-E,y,z];have:=rr A.toList g x (i) 1 (c) (by omega) y (by simpa using ad) (by omega) (by rw[L];exact aW);rw[show g.length - i=(n - i) by omega] at this;simpa[show (i+1)=i+1 by omega,show (n+1)=g.length+1 by omega] using this
   ·have aI:s≠b:=fun k=>a7 (by rw[k];rfl);rw[setRow_other _ b s p aI,setRow_other _ b s e aI];rfl
end Go.Proofs.YtggmghkcdfjdoaaGreat
