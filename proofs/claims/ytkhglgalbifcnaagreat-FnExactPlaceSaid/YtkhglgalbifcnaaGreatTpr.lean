import Derived.Test.YtkhglgalbifcnaaGreatGAA
import Derived.Test.YtkhglgalbifcnaaGreatGBJ
import Derived.Test.YtkhglgalbifcnaaGreatTpo
namespace Go.Proofs.YtkhglgalbifcnaaGreat
open Go.RowKit
set_option linter.unusedVariables false
set_option linter.unusedSimpArgs false
set_option maxRecDepth 100000
def markU (l:List Bool) (x:Int):List Bool:=if 0<=x∧x<=999 then l.set x.toNat true else l
def marksU (l:List Bool) (xs:List Int):List Bool:=xs.foldl markU l
theorem markU_len (l:List Bool) (x:Int):(markU l x).length=l.length:=by unfold markU;split<;>simp
theorem marksU_len:∀ (xs:List Int) (l:List Bool),(marksU l xs).length=l.length
 | [],l=>rfl
 | x::r,l=>by show (marksU (markU l x) r).length=_;rw[marksU_len r,markU_len]
theorem marksU_snoc (l:List Bool) (xs:List Int) (x:Int):marksU l (xs++[x])=markU (marksU l xs) x:=by simp[marksU]
def plS (xs:List Int):PSt:=⟨marksU (List.replicate 1000 false) xs,false,[]⟩
theorem plS_len (xs:List Int):(plS xs).used.length=1000:=by show (marksU _ _).length=_;rw[marksU_len];simp
theorem getD_setU (l:List Bool) (i j:Nat):(l.set i true).getD j true=(decide (j=i) || l.getD j true):=by
 by_cases h:j=i
 ·subst h
  by_cases hl:j<l.length<;>simp[List.getD,hl,List.getElem?_eq_none]
 ·simp[List.getD,List.getElem?_set,h,Ne.symm h]
theorem marksU_keep:∀ (xs:List Int) (l:List Bool) (i:Nat),l.getD i true=true->(marksU l xs).getD i true=true
 | [],l,i,h=>h
 | x::r,l,i,h=>by
  refine marksU_keep r _ i ?_
  unfold markU
  split
  ·rw[getD_setU,h];simp
  ·exact h
theorem plS_us {xs:List Int} {x:Int} (hx:x ∈ xs) (hr:0<=x∧x<=999):Us (plS xs) x:=by
 obtain⟨A,B,rfl⟩:=List.append_of_mem hx
 show (marksU _ (A++x::B)).getD _ true=true
 have e:marksU (List.replicate 1000 false) (A++x::B)=marksU (markU (marksU (List.replicate 1000 false) A) x) B:=by simp[marksU]
 rw[e]
 refine marksU_keep B _ _ ?_
 unfold markU
 rw[if_pos hr,getD_setU]
 simp
def plQ (ts:List TN) (tx:Int) (tk:List Int):List TN × List (Int × PgC):=if 1<=tx∧tx<=2000000000 then match topT ts with
 | none=>([],[])
 | some u=>if (placeT u (plS (tk++u.nums))).2.bad then ([],[]) else ((placeT u (plS (tk++u.nums))).1.flat 0,(placeT u (plS (tk++u.nums))).2.log)
 else ([],[])
theorem plQ_tx {ts:List TN} {tx:Int} {tk:List Int} (h:¬ (1<=tx∧tx<=2000000000)):plQ ts tx tk=([],[]):=by unfold plQ;rw[if_neg h]
theorem plQ_no {ts:List TN} {tx:Int} {tk:List Int} (h:topT ts=none):plQ ts tx tk=([],[]):=by unfold plQ;rw[h];split<;>rfl
theorem plQ_bad {ts:List TN} {tx:Int} {tk:List Int} {u:T} (h:topT ts=some u) (hb:(placeT u (plS (tk++u.nums))).2.bad=true):plQ ts tx tk=([],[]):=by unfold plQ;rw[h];simp only[hb,if_true];split<;>rfl
theorem plQ_ok {ts:List TN} {tx:Int} {tk:List Int} {u:T} (ht:1<=tx∧tx<=2000000000) (h:topT ts=some u) (hb:(placeT u (plS (tk++u.nums))).2.bad=false):plQ ts tx tk=((placeT u (plS (tk++u.nums))).1.flat 0,(placeT u (plS (tk++u.nums))).2.log):=by unfold plQ;rw[if_pos ht,h];simp[hb]
def PgAt (w:World) (A B:Nat) (tx:Int) (b o:Nat) (c:PgC):Prop:=∃ (ka:Option Addr) (kc:Nat) (ea:Option Addr) (ec:Nat),(∀ j,j<9->w.cell? ⟨b,o+j,none⟩=[Value.int .i64 c.kind,.int .i64 tx,.int .i64 0,.int .i64 0,.int .i64 0,.slice ka c.kids.length kc,.slice ea c.ents.length ec,.int .i64 c.next,.string c.data][j]?)∧RowsAt w A B 2 kidCells (fun _=>True) dK ka c.kids.length kc c.kids∧RowsAt w A B 4 entCells (fun _=>True) dE ea c.ents.length ec c.ents
def PgsAt (w:World) (A B:Nat) (tx:Int) (a:Option Addr) (n c:Nat) (l:List PgC):Prop:=l.length=n∧n<=c∧c<=maxLen∧(0<n->∃ b off,a=some ⟨b,off,none⟩∧(A<=b∧b<B)∧∀ (i:Nat) c,l[i]?=some c->PgAt w A B tx b (off+i*9) c)
theorem PgAt.keep {w w':World} {A B:Nat} {tx:Int} {b o:Nat} {c:PgC} (h:PgAt w A B tx b o c) (hb:A<=b∧b<B) (hk:Keeps A B w w'):PgAt w' A B tx b o c:=by
 obtain⟨ka,kc,ea,ec,h1,h2,h3⟩:=h
 exact⟨ka,kc,ea,ec,fun j hj=>(hk.cell hb.1 hb.2).trans (h1 j hj),h2.keep hk,h3.keep hk⟩
theorem PgsAt.keep {w w':World} {A B:Nat} {tx:Int} {a:Option Addr} {n c:Nat} {l:List PgC} (h:PgsAt w A B tx a n c l) (hk:Keeps A B w w'):PgsAt w' A B tx a n c l:=by
 obtain⟨h1,h2,h3,h4⟩:=h
 refine⟨h1,h2,h3,fun hn=>?_⟩
 obtain⟨b,off,rfl,hlt,hc⟩:=h4 hn
 exact⟨b,off,rfl,hlt,fun i c hi=>(hc i c hi).keep hlt hk⟩
theorem PgsAt.below {w w':World} {A B:Nat} {tx:Int} {a:Option Addr} {n c:Nat} {l:List PgC} (h:PgsAt w A B tx a n c l) (hb:Below B w w'):PgsAt w' A B tx a n c l:=h.keep (.of_below hb)
theorem pgs_nil (w:World) (A B:Nat) (tx:Int):PgsAt w A B tx none 0 0 []:=⟨rfl,Nat.le_refl _,Nat.zero_le _,fun h=>absurd h (Nat.lt_irrefl _)⟩
theorem rows_nilP {α:Type} (w:World) (A B m:Nat) (cs:α->List Value) (fit:α->Prop) (d:α):RowsAt w A B m cs fit d none 0 0 []:=⟨rfl,Nat.le_refl _,Nat.zero_le _,fun i h=>absurd h (Nat.not_lt_zero _),fun h=>absurd h (Nat.lt_irrefl _)⟩
theorem flatten_get {css:List (List Value)} {m:Nat} (hm:∀ (i:Nat) cs,css[i]?=some cs->cs.length=m):∀ (i:Nat) cs,css[i]?=some cs->∀ j,j<m->css.flatten[i*m+j]?=cs[j]?:=by
 induction css with
 | nil=>intro i cs h;simp at h
 | cons x r ih =>
  intro i cs h j hj
  have hx:x.length=m:=hm 0 x rfl
  cases i with
  | zero =>
   simp at h
   subst h
   rw[List.flatten_cons,Nat.zero_mul,Nat.zero_add,List.getElem?_append_left (by omega)]
  | succ i =>
   have:=ih (fun i cs h=>hm (i+1) cs h) i cs (by simpa using h) j hj
   rw[List.flatten_cons,Nat.add_mul,Nat.one_mul,List.getElem?_append_right (by omega),<-this]
   congr 1
   omega
theorem PAt.read {X:Nat->Prop} {w:World} {P U a b:Nat} {pv nv:Value} {tx:Int} {s:PSt} (h:PAt X w P U pv a nv b tx s) (ha:a=s.log.length) (hb:b=s.log.length):(∃ pa pc,pv=.slice pa s.log.length pc∧PgsAt w 0 w.heap.size tx pa s.log.length pc (s.log.map Prod.snd))∧∃ na nc,nv=.slice na s.log.length nc∧RowsAt w 0 w.heap.size 1 intCells (fun _=>True) 0 na s.log.length nc (s.log.map Prod.fst):=by
 subst ha
 constructor
 ·obtain⟨css,h1,h2,h3⟩:=h.pgs
  have h9:∀ (i:Nat) cs,css[i]?=some cs->cs.length=9:=fun i cs hi=>by
   obtain⟨_,_,_,_,_,_,_,e,_⟩:=h3 i cs hi
   rw[e];rfl
  rcases h1.2 with ⟨rfl,e⟩ | ⟨g,cap,cur,rfl,hg,hgg,h4,h5,_⟩
  ·refine⟨none,0,by rw[e],by rw[List.length_map],by rw[e];exact Nat.le_refl _,Nat.zero_le _,fun h=>absurd h (by omega)⟩
  ·refine⟨_,_,rfl,by rw[List.length_map],h4,h5,fun hn=>⟨g,0,rfl,h1.lt g rfl,fun i c hi=>?_⟩⟩
   have hil:i<css.length:=by have:=(List.getElem?_eq_some_iff.1 hi).1;rw[List.length_map] at this;omega
   obtain⟨n,c',e1,ka,kc,ea,ec,e2,o1,o2,_⟩:=h3 i _ (List.getElem?_eq_getElem hil)
   have hc:c'=c:=by rw[List.getElem?_map,e1] at hi;simpa using hi
   subst hc
   obtain⟨_,_,q1,r1⟩:=RowsAt.of_owns (fit:=fun _=>True) (d:=dK) kc2 o1 rfl (fun _ _=>trivial)
   obtain⟨_,_,q2,r2⟩:=RowsAt.of_owns (fit:=fun _=>True) (d:=dE) ec4 o2 rfl (fun _ _=>trivial)
   cases q1
   cases q2
   refine⟨ka,kc,ea,ec,fun j hj=>?_,r1,r2⟩
   have hlen:i*9+j<s.log.length*9:=by omega
   rw[Nat.zero_add,h1.cellAt (i*9+j) hlen,flatten_get h9 i _ (List.getElem?_eq_getElem hil) j hj,e2]
 ·subst hb
  have hn:=h.nms
  rw[List.take_length] at hn
  exact RowsAt.of_owns (fun _=>rfl) hn (by rw[List.length_map]) (fun _ _=>trivial)
def PlcAns (ts:List TN) (tx:Int) (tk:List Int) (N:Nat) (e:Ending) (w':World):Prop:=∃ oa oc pa pc na nc,e=.returned (.agg #[.slice oa (plQ ts tx tk).1.length oc,.slice pa (plQ ts tx tk).2.length pc,.slice na (plQ ts tx tk).2.length nc])∧NodesAt w' N w'.heap.size oa (plQ ts tx tk).1.length oc (plQ ts tx tk).1∧PgsAt w' 0 w'.heap.size tx pa (plQ ts tx tk).2.length pc ((plQ ts tx tk).2.map Prod.snd)∧RowsAt w' 0 w'.heap.size 1 intCells (fun _=>True) 0 na (plQ ts tx tk).2.length nc ((plQ ts tx tk).2.map Prod.fst)
theorem plcAns_nil {ts:List TN} {tx:Int} {tk:List Int} {N:Nat} {w':World} (h:plQ ts tx tk=([],[])):PlcAns ts tx tk N (.returned (.agg #[.slice none 0 0,.slice none 0 0,.slice none 0 0])) w':=by
 unfold PlcAns
 rw[h]
 exact⟨none,0,none,0,none,0,rfl,⟨rfl,Nat.le_refl _,by unfold maxLen;omega,fun h=>absurd h (by simp)⟩,pgs_nil _ _ _ _,rows_nilP _ _ _ _ _ _ _⟩
theorem neat_tight:∀ (t:T),Neat t->Tight t:=by
 intro t
 induction t using T.ind with
 | h t ih =>
  intro h
  obtain⟨h1,h2,h3⟩:=(neat_eq t).1 h
  exact (tight_eq t).2 ⟨fun e=>(h2 e).2.2.1,fun k hk=>ih k hk (h3 k hk)⟩
theorem own_full {w:World} {base e g n:Nat} {xs:List Value} (h:w.ownsRow base e 1 (.slice (some ⟨g,0,none⟩) n n) n xs):w.heap[g]?=some (.cells xs.toArray e):=by
 rcases h.2 with ⟨e1,_⟩ | ⟨g0,cap,cur,e1,_,hk,h1,h2,h3,h4⟩
 ·cases e1
 ·simp only[Value.slice.injEq,Option.some.injEq,Addr.mk.injEq] at e1
  obtain⟨⟨rfl,_⟩,_,rfl⟩:=e1
  rw[hk]
  have e2:cur.toList=xs:=by rw[<-h4,List.take_of_length_le (by simp[h3])]
  rw[<-e2]
theorem box3P {w:World} {N:Nat} {v0 v1 v2:Value} {t:TypeId} (h:w.heap[N]?=some (.cells #[v0,v1,v2] t)):w.cell? ⟨N,0,none⟩=some v0∧w.cell? ⟨N,1,none⟩=some v1∧w.cell? ⟨N,2,none⟩=some v2:=by
 simp[World.cell?,h]
def put3P (w:World) (N:Nat) (u0 u1 u2:Value):World:=((w.setCell ⟨N,0,none⟩ u0).setCell ⟨N,1,none⟩ u1).setCell ⟨N,2,none⟩ u2
theorem put3P_eq (w:World) (N:Nat) (u0 u1 u2:Value):((w.setCell ⟨N,0,none⟩ u0).setCell ⟨N,1,none⟩ u1).setCell ⟨N,2,none⟩ u2=put3P w N u0 u1 u2:=rfl
theorem put3P_box {w:World} {N t:Nat} {v0 v1 v2:Value} (h:w.heap[N]?=some (.cells #[v0,v1,v2] t)) (u0 u1 u2:Value):(put3P w N u0 u1 u2).heap[N]?=some (.cells #[u0,u1,u2] t):=by
 unfold put3P
 have h1:=heap_setT (heap_setT (heap_setT h 0 u0) 1 u1) 2 u2
 simpa using h1
theorem put3P_fr (w:World) (N:Nat) (u0 u1 u2:Value):Fr (fun x=>x=N) w (put3P w N u0 u1 u2):=((fr_setT w N 0 u0).trans (fr_setT _ N 1 u1)).trans (fr_setT _ N 2 u2)
set_option maxHeartbeats 8000000 in
theorem specPlaceX_any (ts:List TN) (a:Option Addr) (n c A B:Nat) (w:World) (hB:B<=w.heap.size) (hT:NodesAt w A B a n c ts) (tx:Int) (tk:List Int) (ta:Option Addr) (tn tc A0 B0:Nat) (hB2:B0<=w.heap.size) (hTk:IntsAt w A0 B0 ta tn tc tk) (htn:tn<=1048576) :
  Calls Tryz.prog 5 #[.agg #[.slice a n c],.int .i64 tx,.slice ta tn tc] w fun e w'=>PlcAns ts tx tk w.heap.size e w'∧Below w.heap.size w w':=by
 obtain⟨N,hN⟩:∃ N,w.heap.size=N:=⟨_,rfl⟩
 obtain⟨W,hW⟩:∃ W,W=((w.alloc (.cells #[.slice a n c] 29)).alloc (.cells #[.slice none 0 0,.slice none 0 0,.slice none 0 0] 32)):=⟨_,rfl⟩
 have al:=alloc2N w (.cells #[.slice a n c] 29) (.cells #[.slice none 0 0,.slice none 0 0,.slice none 0 0] 32)
 rw[<-hW,hN] at al
 obtain⟨k0,k1,sW,bW⟩:=al
 have HT:Hid (∀ V,Below N w V->NodesAt V A B a n c ts):=fun V h=>hT.below (h.mono (by omega))
 have HL:Hid (ts.length=n):=hT.1
 have hsp:=specValid_any ts a n c A B W (by omega) (HT.out W bW)
 have x0:=cell_one_at k0
 have lN:N<W.heap.size:=by omega
 have HTK0:Hid (∀ V,Below N w V->IntsAt V A0 B0 ta tn tc tk):=fun V h=>hTk.below (h.mono (by omega))
 have HTL:Hid (tk.length=tn):=hTk.1
 clear hT hTk
 go_enter Tryz.func5,Tryz.ntmps5
 go_upto_region 1 with fail
 rw[<-hW]
 clear hW
 by_cases htx:1<=tx∧tx<=2000000000
 rotate_left
 ·have htx3:(decide (1<=tx∧tx<=2000000000))=false:=by simpa using htx
  have HTX:Hid (¬ (1<=tx∧tx<=2000000000)):=htx
  clear htx
  go_upto_if 20 with (first | (go_at_call 17;refine hsp.mono ?_;rintro e w2 ⟨r,rfl,hr,hb2⟩;have hR:Hid (r=true ↔ SpecOk ts):=hr;clear hr;cases r) | (go_at_call 18;refine (l1In_any tx 1 2000000000 w2).mono ?_;rintro e w3 ⟨rfl,h3⟩;rw[h3];clear h3 w3))
  ·clear hR
   have HPR:Hid (plQ ts tx tk=([],[])):=plQ_tx HTX.out
   have k12:=(hb2.block (N+1) (by omega)).trans k1
   obtain⟨z0,z1,z2⟩:=box3P k12
   have f1:=thawT k12
   have l1:=(Array.getElem?_eq_some_iff.1 k12).1
   have kf:=put3P_box k12 (.slice none 0 0) (.slice none 0 0) (.slice none 0 0)
   obtain⟨y0,y1,y2⟩:=box3P kf
   have HB:Hid (Below w.heap.size w (put3P w2 (N+1) (.slice none 0 0) (.slice none 0 0) (.slice none 0 0))):=by show Below _ _ _;rw[hN];exact (bW.trans (hb2.mono (by omega))).trans ((put3P_fr w2 (N+1) _ _ _).below (by have:=hb2.size;omega) (fun g e=>by omega))
   clear kf
   go_wp2_with fail
   rw[put3P_eq]
   refine bodyPost_ret (v:=.agg #[.slice none 0 0,.slice none 0 0,.slice none 0 0]) (by simp[results,Tryz.results5,go_sem,y0,y1,y2]) rfl ?_
   exact⟨plcAns_nil HPR.out,HB.out⟩
  ·clear hR
   have HPR:Hid (plQ ts tx tk=([],[])):=plQ_tx HTX.out
   have k12:=(hb2.block (N+1) (by omega)).trans k1
   obtain⟨z0,z1,z2⟩:=box3P k12
   have f1:=thawT k12
   have l1:=(Array.getElem?_eq_some_iff.1 k12).1
   have kf:=put3P_box k12 (.slice none 0 0) (.slice none 0 0) (.slice none 0 0)
   obtain⟨y0,y1,y2⟩:=box3P kf
   have HB:Hid (Below w.heap.size w (put3P w2 (N+1) (.slice none 0 0) (.slice none 0 0) (.slice none 0 0))):=by show Below _ _ _;rw[hN];exact (bW.trans (hb2.mono (by omega))).trans ((put3P_fr w2 (N+1) _ _ _).below (by have:=hb2.size;omega) (fun g e=>by omega))
   clear kf
   go_wp2_with fail
   rw[put3P_eq]
   refine bodyPost_ret (v:=.agg #[.slice none 0 0,.slice none 0 0,.slice none 0 0]) (by simp[results,Tryz.results5,go_sem,y0,y1,y2]) rfl ?_
   exact⟨plcAns_nil HPR.out,HB.out⟩
 have htx3:(decide (1<=tx∧tx<=2000000000))=true:=by simpa using htx
 have HTX:Hid (1<=tx∧tx<=2000000000):=htx
 clear htx
 go_upto_if 20 with (first | (go_at_call 17;refine hsp.mono ?_;rintro e w2 ⟨r,rfl,hr,hb2⟩;have hR:Hid (r=true ↔ SpecOk ts):=hr;clear hr;cases r) | (go_at_call 18;refine (l1In_any tx 1 2000000000 w2).mono ?_;rintro e w3 ⟨rfl,h3⟩;rw[h3];clear h3 w3))
 ·have HPR:Hid (plQ ts tx tk=([],[])):=plQ_no (topT_no (fun h=>absurd (hR.out.2 ((valid_iff ts).2 h)) (by simp)))
  have k12:=(hb2.block (N+1) (by omega)).trans k1
  obtain⟨z0,z1,z2⟩:=box3P k12
  have f1:=thawT k12
  have l1:=(Array.getElem?_eq_some_iff.1 k12).1
  have kf:=put3P_box k12 (.slice none 0 0) (.slice none 0 0) (.slice none 0 0)
  obtain⟨y0,y1,y2⟩:=box3P kf
  have HB:Hid (Below w.heap.size w (put3P w2 (N+1) (.slice none 0 0) (.slice none 0 0) (.slice none 0 0))):=by show Below _ _ _;rw[hN];exact (bW.trans (hb2.mono (by omega))).trans ((put3P_fr w2 (N+1) _ _ _).below (by have:=hb2.size;omega) (fun g e=>by omega))
  clear kf
  go_wp2_with fail
  rw[put3P_eq]
  refine bodyPost_ret (v:=.agg #[.slice none 0 0,.slice none 0 0,.slice none 0 0]) (by simp[results,Tryz.results5,go_sem,y0,y1,y2]) rfl ?_
  exact⟨plcAns_nil HPR.out,HB.out⟩
 ·have HOK:Hid (SpecOk ts):=hR.out.1 trivial
  obtain⟨u,hst⟩:=stand_of HOK.out
  have HST:Hid (Stand ts u):=hst
  obtain⟨_,_,hg,hsh,hht,htn',hso,hky⟩:=topT_good hst.top
  have hne:=hst.neat
  have hrd:Hid ((rd ts (ts.length+1) 0).1=u):=by show _=_;have:=topT_rd HOK.out;rw[hst.top] at this;exact (Option.some.inj this).symm
  have HPG:Hid (∀ x ∈ u.nums,pgB x=true):=nums_page u (neat_tight u hne) ⟨true,hg⟩
  have hnl:=nums_len u (neat_tight u hne) ⟨true,hg⟩
  have HGN:Hid (u.good true=true∧Neat u∧u.nodes<=1000):=⟨hg,hne,htn'⟩
  have HNUM:Hid (u.nums.length<=5000):=by show _<=_;omega
  obtain⟨kq,hk1⟩:∃ kq,u.nums.length=kq:=⟨_,rfl⟩
  have HK1:Hid (u.nums.length=kq):=hk1
  have hk15:kq<=5000:=by omega
  obtain⟨nu9,hal9⟩:∃ nu9,tk++u.nums=nu9:=⟨_,rfl⟩
  have HA9:Hid (tk++u.nums=nu9):=hal9
  obtain⟨k,hk⟩:∃ k,tn+kq=k:=⟨_,rfl⟩
  have HK:Hid (nu9.length=k):=by show _=_;rw[<-hal9,List.length_append,HTL.out,hk1];exact hk
  have hk5:k<=1053576:=by omega
  clear hal9 hk1
  have hn3:ts.length<=1000:=HOK.out.1.2
  have k02:=(hb2.block N (by omega)).trans k0
  have k12:=(hb2.block (N+1) (by omega)).trans k1
  have b2:Below N w w2:=bW.trans (hb2.mono (by omega))
  have s2:=hb2.size
  have hdeep:=l3Deep_any ts hn3 a n c A B w2 (by omega) (HT.out w2 b2)
  have x0:=cell_one_at k02
  have lN:=(Array.getElem?_eq_some_iff.1 k02).1
  obtain⟨ii,hii,hj0,hj1,hj2⟩:=info_parts info_int64
  obtain⟨i0,hi,hz0,hz1,hz2⟩:=info_parts info_boolT
  clear hst hg hsh hht hso htn' hky hne hnl k0 k1 hb2 bW sW
  clear hR
  go_upto_region 4 with (go_at_call 19;refine hdeep.mono ?_;rintro e w4 ⟨ka,kn,kc,va,vn,vc,oa,on,oc,ya,yc,css,rfl,hX4,hb4⟩)
  clear hdeep x0 lN
  rw[hrd.out] at hX4 ⊢
  clear hrd
  generalize (!(rd ts (ts.length+1) 0).2.2 && decide ((rd ts (ts.length+1) 0).2.1=n))=okb
  have hX4':NodeX w4 0 w4.heap.size (fun b=>b<w4.heap.size) u ka kn kc va vn vc oa on oc ya yc css:=hX4.wide (fun _ _ _=>rfl) (fun _ _=>rfl) (fun b hb=>hb.2) (Nat.zero_le _) (by have:=hb4.size;omega)
  obtain⟨M,hM⟩:∃ M,w4.heap.size=M:=⟨_,rfl⟩
  have k4:=heap_alloc_new w4 (.cells #[.bool u.leaf,.int .i64 u.page,.slice ka kn kc,.slice va vn vc,.slice oa on oc,.slice ya u.kids.length yc] 49)
  have ab4:=(Below.refl w4.heap.size w4).alloc (Nat.le_refl _) (.cells #[.bool u.leaf,.int .i64 u.page,.slice ka kn kc,.slice va vn vc,.slice oa on oc,.slice ya u.kids.length yc] 49)
  have sb4:(w4.alloc (.cells #[.bool u.leaf,.int .i64 u.page,.slice ka kn kc,.slice va vn vc,.slice oa on oc,.slice ya u.kids.length yc] 49)).heap.size=w4.heap.size+1:=by simp
  have hSN:SN (w4.alloc (.cells #[.bool u.leaf,.int .i64 u.page,.slice ka kn kc,.slice va vn vc,.slice oa on oc,.slice ya u.kids.length yc] 49)) (fun b=>b<w4.heap.size) u (.agg #[.bool u.leaf,.int .i64 u.page,.slice ka kn kc,.slice va vn vc,.slice oa on oc,.slice ya u.kids.length yc]):=SN.below ⟨_,_,_,_,_,_,_,_,_,_,_,_,rfl,hX4'.q⟩ ab4
  have hXA:=hX4'.belowC ab4
  generalize w4.alloc (.cells #[.bool u.leaf,.int .i64 u.page,.slice ka kn kc,.slice va vn vc,.slice oa on oc,.slice ya u.kids.length yc] 49)=W4 at k4 ab4 sb4 hSN hXA ⊢
  have s4:=hb4.size
  have b24:=hb4.trans (ab4.mono (by omega))
  have k14:=(b24.block (N+1) (Array.getElem?_eq_some_iff.1 k12).1).trans k12
  have b4:Below N w W4:=b2.trans (b24.mono (by omega))
  rw[hM] at k4 ab4 sb4 hSN hXA s4 ⊢
  have l1M:N+1<M:=by have:=(Array.getElem?_eq_some_iff.1 k12).1;omega
  clear hX4 hX4' b24 hb4 k02 k12 b2
  clear hM
  go_upto_region 5 with (at_make;refine wpList_make_full _ rfl _ _ 53 rfl W4.heap.size 4 i0 _ 1 Tryz.underlying53 hi hz0 hz1 .i64 .i64 1000 1000 1000 rfl rfl rfl rfl (by rw[hz2];omega) (by unfold maxLen;omega) (Nat.le_refl _) ?_;intro w7 hown hgr)
  have hmk:(madeCells (Value.bool false).cells (1000*1)).toList=(List.replicate 1000 false).map Value.bool:=(toList_madeCells_one _ _).trans (by simp)
  rw[hmk] at hown
  have kU:=own_full hown
  have hb7:Below W4.heap.size W4 w7:=(Below.refl _ _).grown hgr (Nat.le_refl _) (by simp)
  clear hmk hown hgr
  obtain⟨U,hU⟩:∃ U,M+1=U:=⟨_,rfl⟩
  have hUP2:M<U:=by omega
  rw[sb4] at kU hb7
  rw[hU] at kU hb7 sb4 ⊢
  have lU:=(Array.getElem?_eq_some_iff.1 kU).1
  obtain⟨P,hP⟩:∃ P,w7.heap.size=P:=⟨_,rfl⟩
  have kP:=heap_alloc_new w7 (.cells #[.slice (some ⟨U,0,none⟩) 1000 1000,.int .i64 tx,.slice none 0 0,.slice none 0 0,.bool false] 55)
  have abP:=(Below.refl w7.heap.size w7).alloc (Nat.le_refl _) (.cells #[.slice (some ⟨U,0,none⟩) 1000 1000,.int .i64 tx,.slice none 0 0,.slice none 0 0,.bool false] 55)
  have sbP:(w7.alloc (.cells #[.slice (some ⟨U,0,none⟩) 1000 1000,.int .i64 tx,.slice none 0 0,.slice none 0 0,.bool false] 55)).heap.size=w7.heap.size+1:=by simp
  generalize w7.alloc (.cells #[.slice (some ⟨U,0,none⟩) 1000 1000,.int .i64 tx,.slice none 0 0,.slice none 0 0,.bool false] 55)=W5 at kP abP sbP ⊢
  have kU5:=(abP.block U lU).trans kU
  have b75:Below U W4 W5:=hb7.trans (abP.mono (by have:=hb7.size;omega))
  rw[hP] at kP sbP lU ⊢
  have k45:=(b75.block M (by omega)).trans k4
  have k15:=(b75.block (N+1) (by omega)).trans k14
  have HP5:Hid (PAt (fun _=>False) W5 P U (.slice none 0 0) 0 (.slice none 0 0) 0 tx (plS (nu9.take 0))):=⟨kP,kU5,plS_len _,⟨[],owns_nilP _ _ _ _,rfl,fun i cs h=>by simp at h⟩,owns_nilP _ _ _ _⟩
  have HS5:Hid (SN W5 (fun b=>b<M) u (.agg #[.bool u.leaf,.int .i64 u.page,.slice ka kn kc,.slice va vn vc,.slice oa on oc,.slice ya u.kids.length yc])):=hSN.keep (fun b hb hlt=>b75.block b (by omega)) (fun _ h=>h) (by have:=b75.size;omega)
  have HX5:Hid (NodeX W5 0 M (fun b=>b<M) u ka kn kc va vn vc oa on oc ya yc css):=hXA.belowC (b75.mono (by omega))
  have b5:Below N w W5:=b4.trans (b75.mono (by omega))
  have HB5:Hid (Below N w W5):=b5
  clear abP hb7 kU kU5 b75 hSN hXA b4 k4 k14 kP hP hU ab4
  have s5:=b5.size
  have lM5:=(Array.getElem?_eq_some_iff.1 k45).1
  have hUP3:U<P:=lU
  have hUP1:U≠P:=by omega
  have HNU:Hid (∀ V:World,Below W5.heap.size W5 V->Calls Tryz.prog 20 #[.agg #[.bool u.leaf,.int .i64 u.page,.slice ka kn kc,.slice va vn vc,.slice oa on oc,.slice ya u.kids.length yc]] V fun e w'=>NumsAns u V e w'):=fun V hV=>l3Numbers_any M u (by have:=HNUM.out;omega) V ka kn kc va vn vc oa on oc ya yc css (by have:=hV.size;omega) (HX5.out.belowC (hV.mono (by omega)))
  go_cut [10] (fun v wx=>∃ (G:Option Addr) (gc:Nat),v=.slice G k gc∧Hid (wx.ownsRow W5.heap.size 2 1 (.slice G k gc) k (rowsOf intCells nu9)∧Below W5.heap.size W5 wx))
  case first =>
   have bV0:=(Below.refl W5.heap.size W5).drew
   refine wp_region_noPanic ?_
   refine wp_region_held_drew (S:=(fun w':World=>Below W5.heap.size W5 w')) (by kernel_rfl) (bV0) (fun hHeld=>?_)
   refine tY 1 (.slice ta tn tc) (.s .z) (by kernel_rfl) (by rfl) ?_ ‹_› ?_
   ·intro wq hSw;go_simp
   refine tY 3 (.agg #[.bool u.leaf,.int .i64 u.page,.slice ka kn kc,.slice va vn vc,.slice oa on oc,.slice ya u.kids.length yc]) (.s (.s (.s .z))) (by kernel_rfl) (by rfl) ?_ ‹_› ?_
   ·intro wq hSw;(try dsimp only at hSw);obtain⟨y0,y1,y2,y3,y4,y5⟩:=box6g ((hSw.block M lM5).trans k45);have lq:M<wq.heap.size:=Nat.lt_of_lt_of_le lM5 hSw.size;go_simp
   try simp only[Act.put,q1,q2,q3]
   clear hHeld
   obtain⟨D,hD⟩:∃ D,W5.drew=D:=⟨_,rfl⟩
   rw[hD] at bV0 ⊢
   have hHeld:=bV0
   clear hD
   refine wpAnyH_ready (rs:=[0]) (by kernel_rfl) (by simp) ?_
   refine rdA .z (fun K hK=>?_) AllReadyH.nil
   go_simp
   have alD:=(Below.refl D.heap.size D).alloc (Nat.le_refl _) (.cells #[] 2)
   have hE0:=emptyE D 2 1 W5.heap.size bV0.size
   have bD:Below W5.heap.size W5 (D.alloc (.cells #[] 2)):=bV0.trans (alD.mono bV0.size)
   refine hK.out _ _ (bD) (fun hHeld=>?_)
   clear hK K
   try simp only[Act.put,q1,q2,q3]
   refine wpAnyH_ready (rs:=[2]) (by kernel_rfl) (by simp) ?_
   refine rdA (.s (.s .z)) (fun K hK=>?_) AllReadyH.nil
   have hsrc:SrcAt (D.alloc (.cells #[] 2)) B0 1 tn (.slice ta tn tc) (rowsOf intCells tk):=srcRows (fun _=>rfl) (one_int _) (HTK0.out _ (HB5.out.trans (bD.mono (by omega)))) htn
   refine step_append_S rfl _ _ 25 rfl W5.heap.size 2 ii _ 1 8 Tryz.underlying25 hii hj0 hj1 hj2 rfl (by decide) (by decide) (.slice (some ⟨D.heap.size,0,none⟩) 0 0) 0 [] (by simp[Act.eval]) hE0 (by omega) (.slice ta tn tc) B0 tn (rowsOf intCells tk) (by simp[Act.eval]) hsrc bD.size ?_
   intro v6 w6 h1 h2 h3
   rw[Nat.zero_add,List.nil_append] at h1
   obtain⟨G6,c6,rfl⟩:=own_shape h1
   have b6:Below W5.heap.size W5 w6:=bD.trans ((Fr.of_grown (S:=fun g=>g=D.heap.size) h2 (fun g e=>(Option.some.inj e).symm)).below bD.size (fun g e=>by have:=bV0.size;omega))
   have O6:w6.ownsRow W5.heap.size 2 1 (.slice G6 tn c6) tn (rowsOf intCells tk):=h1
   refine hK.out _ _ (b6) (fun hHeld=>?_)
   clear hK K
   try simp only[Act.put,q1,q2,q3]
   refine wpAnyH_ready (rs:=[4]) (by kernel_rfl) (by simp) ?_
   refine rdA (.s (.s (.s (.s .z)))) (fun K hK=>?_) AllReadyH.nil
   go_simp
   refine (HNU.out w6 b6).mono ?_
   rintro e w7n ⟨gn,cn,rfl,O7,b7⟩
   rw[HK1.out] at O7 ⊢
   have b67:Below W5.heap.size W5 w7n:=b6.trans (b7.mono b6.size)
   have O67:=owns_below O6 b7
   go_wp2_with fail
   refine hK.out _ _ (b67) (fun hHeld=>?_)
   clear hK K
   try simp only[Act.put,q1,q2,q3]
   refine wpAnyH_ready (rs:=[5]) (by kernel_rfl) (by simp) ?_
   refine rdA (.f .z) (fun K hK=>?_) AllReadyH.nil
   refine step_append_S rfl _ _ 25 rfl W5.heap.size 2 ii _ 1 8 Tryz.underlying25 hii hj0 hj1 hj2 rfl (by decide) (by decide) (.slice G6 tn c6) tn (rowsOf intCells tk) (by simp[Act.eval]) O67 (by omega) (.slice (some ⟨gn,0,none⟩) kq cn) _ kq (rowsOf intCells u.nums) (by simp[Act.eval]) (src_own O7 (one_int _) (by omega)) b67.size ?_
   intro v8 w8 h81 h82 h83
   have O8:w8.ownsRow W5.heap.size 2 1 v8 k (rowsOf intCells nu9):=by have:=h81;rwa [hk,<-rowsOf_append,HA9.out] at this
   obtain⟨G8,c8,rfl⟩:=own_shape O8
   have b8:Below W5.heap.size W5 w8:=b67.trans ((Fr.of_grown (S:=fun g=>(Value.slice G6 tn c6).ownBlock=some g) h82 (fun g e=>e)).below b67.size (fun g e=>(O67.lt g e).1))
   refine hK.out _ _ (b8) (fun hHeld=>?_)
   clear hK K
   refine tY 6 (.slice G8 k c8) (.f (.s .z)) (by kernel_rfl) (by rfl) ?_ ‹_› ?_
   ·intro wq hSw;go_simp
   try simp only[Act.put,q1,q2,q3]
   refine wpAnyH_done (by kernel_rfl) ?_ _
   refine NoPanic.normal ?_
   clear hHeld
   go_wp2_with fail
   go_meet
   exact⟨G8,c8,rfl,O8,b8⟩
  case rest =>
   obtain⟨G,gc,rfl,HC⟩:=hcut
   obtain⟨hrow,bc⟩:=HC.out
   have HPc:Hid (PAt (fun _=>False) wc P U (.slice none 0 0) 0 (.slice none 0 0) 0 tx (plS (nu9.take 0))):=HP5.out.below bc
   have HSc:Hid (SN wc (fun b=>b<M) u (.agg #[.bool u.leaf,.int .i64 u.page,.slice ka kn kc,.slice va vn vc,.slice oa on oc,.slice ya u.kids.length yc])):=HS5.out.below bc
   have k4c:=(bc.block M lM5).trans k45
   have k1c:=(bc.block (N+1) (by omega)).trans k15
   have bC:Below N w wc:=b5.trans (bc.mono (by omega))
   have HR0:Hid (wc.ownsRow W5.heap.size 2 1 (.slice G k gc) k (rowsOf intCells nu9)):=hrow
   have sC:=bc.size
   clear HC hrow bc HP5 HS5 HX5 b5 k45 k15 HNU
   go_wp2_with fail
   go_loopg [11] k (fun gk iv wq=>∃ i:Nat,i<=k∧gk=k - i∧iv=.int .i64 (i:Int)∧Hid (PAt (fun _=>False) wq P U (.slice none 0 0) 0 (.slice none 0 0) 0 tx (plS (nu9.take i)))∧Hid (Fr (fun g=>g=U) wc wq))
   case atStart=>exact⟨0,Nat.zero_le _,rfl,rfl,HPc,Fr.refl _ _⟩
   case round =>
    clear HPc
    obtain⟨i,hi',rfl,rfl,HP,HF⟩:=hrel
    have hsr:=HF.out.size
    have HRr:Hid (wr.ownsRow W5.heap.size 2 1 (.slice G k gc) k (rowsOf intCells nu9)):=owns_fr HR0.out HF.out (fun g e e'=>by have:=(HR0.out.lt g e).1;omega)
    by_cases hlt:i<k
    ·obtain⟨Gb,rfl⟩:=owns_someD HRr.out (by omega)
     have hGl:=HRr.out.lt Gb rfl
     have cG:=HRr.out.cellAt i (by omega)
     rw[ints_getP nu9 i (by rw[HK.out];exact hlt)] at cG
     obtain⟨x,hx⟩:∃ x,nu9.getD i 0=x:=⟨_,rfl⟩
     rw[hx] at cG
     by_cases hxp:0<=x∧x<=999
     rotate_left
     ·have HNX:Hid (plS (nu9.take (i+1))=plS (nu9.take i)):=by
       show _=_
       unfold plS
       rw[take_snocD nu9 i 0 (by rw[HK.out];exact hlt),hx,marksU_snoc,markU,if_neg hxp]
      have hin:=l1In_any x 0 999 wr
      have hdec:decide ((0:Int)<=x∧x<=999)=false:=by simpa using hxp
      rw[hdec] at hin
      have HPN:Hid (PAt (fun _=>False) wr P U (.slice none 0 0) 0 (.slice none 0 0) 0 tx (plS (nu9.take (i+1)))):=by show PAt _ _ _ _ _ _ _ _ _ _;rw[HNX.out];exact HP.out
      have lGb:=hGl.2
      clear hx hdec hxp HNX hGl
      go_wp2_with (go_at_call 18;refine hin.mono ?_;rintro e w9 ⟨rfl,h9⟩;rw[h9];clear h9 w9)
      go_wp2_with fail
      go_roundg (k - (i+1))
      case measure=>omega
      case rel=>exact⟨i+1,by omega,rfl,by go_num,HPN,HF⟩
     obtain⟨xn,rfl⟩:∃ xn:Nat,x=(xn:Int):=⟨x.toNat,by omega⟩
     have hx2:xn<=999:=by omega
     have HNX:Hid (plS (nu9.take (i+1))={ plS (nu9.take i) with used:=(plS (nu9.take i)).used.set xn true }):=by
      show _=_
      unfold plS
      rw[take_snocD nu9 i 0 (by rw[HK.out];exact hlt),hx,marksU_snoc,markU,if_pos (by omega)]
      rfl
     have hin:=l1In_any (xn:Int) 0 999 wr
     have hdec:decide ((0:Int)<=(xn:Int)∧(xn:Int)<=999)=true:=by simp;omega
     rw[hdec] at hin
     obtain⟨p0,p1,p2,p3,p4⟩:=box5P HP.out.box
     have lP:=HP.out.lt (.inl rfl)
     have lU':=HP.out.lt (.inr (.inl rfl))
     have cU:=HP.out.cell (i:=xn) (by omega)
     have fU:=thawT HP.out.us
     clear hx hdec hxp
     go_upto_region 10 with (go_at_call 18;refine hin.mono ?_;rintro e w9 ⟨rfl,h9⟩;rw[h9];clear h9 w9)
     clear hin
     have HPN:Hid (PAt (fun _=>False) (wr.setCell ⟨U,xn,none⟩ (.bool true)).drew P U (.slice none 0 0) 0 (.slice none 0 0) 0 tx (plS (nu9.take (i+1)))):=by show PAt _ _ _ _ _ _ _ _ _ _;rw[HNX.out];exact (HP.out.mark xn).below ((Below.refl _ _).drew)
     have HFN:Hid (Fr (fun g=>g=U) wc (wr.setCell ⟨U,xn,none⟩ (.bool true)).drew):=(HF.out.trans (fr_setT wr U xn (.bool true))).trans (Fr.of_below ((Below.refl _ _).drew))
     refine wp_region_noPanic ?_
     refine wp_region_held_drew (S:=(fun w':World=>(w'.heap[P]?=wr.heap[P]?∧P<w'.heap.size)∧w'.heap[Gb]?=wr.heap[Gb]?∧Gb<w'.heap.size)) (by kernel_rfl) (⟨⟨rfl,lP⟩,rfl,hGl.2⟩) (fun hHeld=>?_)
     refine tY 0 (.pointer (some ⟨P,0,none⟩)) .z (by kernel_rfl) (by rfl) ?_ ‹_› ?_
     ·intro wq hSw;go_simp
     refine tY 1 (.pointer (some ⟨P,0,none⟩)) (.s .z) (by kernel_rfl) (by rfl) ?_ ‹_› ?_
     ·intro wq hSw;go_simp
     refine tY 2 (.pointer (some ⟨P,0,none⟩)) (.s (.s .z)) (by kernel_rfl) (by rfl) ?_ ‹_› ?_
     ·intro wq hSw;go_simp
     refine tY 3 (.slice (some ⟨U,0,none⟩) 1000 1000) (.s (.s (.s .z))) (by kernel_rfl) (by rfl) ?_ ‹_› ?_
     ·intro wq hSw;(try dsimp only at hSw);obtain⟨y0,y1,y2,y3,y4⟩:=box5P (hSw.1.1.trans HP.out.box);have lq:=hSw.1.2;go_simp
     try simp only[Act.put,q1,q2,q3]
     refine tY 4 (.slice (some ⟨Gb,0,none⟩) k gc) (.s (.s (.s (.s .z)))) (by kernel_rfl) (by rfl) ?_ ‹_› ?_
     ·intro wq hSw;go_simp
     refine tY 5 (.int .i64 (i:Int)) (.f .z) (by kernel_rfl) (by rfl) ?_ ‹_› ?_
     ·intro wq hSw;go_simp
     refine tY 6 (.pointer (some ⟨Gb,i,none⟩)) (.f (.s .z)) (by kernel_rfl) (by rfl) ?_ ‹_› ?_
     ·intro wq hSw;go_simp
     refine tY 7 (.int .i64 (xn:Int)) (.f (.s (.s .z))) (by kernel_rfl) (by rfl) ?_ ‹_› ?_
     ·intro wq hSw;(try dsimp only at hSw);have yg:wq.cell? ⟨Gb,i,none⟩=some (.int .i64 (xn:Int)):=(World.cell?_of_block (w:=wr) (a:=⟨Gb,i,none⟩) hSw.2.1).trans cG;have lg:=hSw.2.2;go_simp
     try simp only[Act.put,q1,q2,q3]
     refine tY 8 (.pointer (some ⟨U,xn,none⟩)) (.f (.s (.s (.s .z)))) (by kernel_rfl) (by rfl) ?_ ‹_› ?_
     ·intro wq hSw;go_simp;(try (intro hh;omega))
     try simp only[Act.put,q1,q2,q3]
     refine wpAnyH_ready (rs:=[9]) (by kernel_rfl) (by simp) ?_
     refine rdA (.f (.s (.s (.s (.s .z))))) (fun K hK=>?_) AllReadyH.nil
     have cU2:wr.drew.cell? ⟨U,xn,none⟩=some (.bool ((plS (List.take i nu9)).used.getD xn true)):=cU
     have fU2:∀ o,wr.drew.frozen? ⟨U,o,none⟩=false:=fU
     have lU2:U<wr.drew.heap.size:=lU'
     go_simp
     refine hK.out _ _ (⟨⟨(fr_setT wr U xn (.bool true)).block P lP (by omega),by show P<(wr.setCell ⟨U,xn,none⟩ (.bool true)).heap.size;rw[setT_size];exact lP⟩,(fr_setT wr U xn (.bool true)).block Gb hGl.2 (by omega),by show Gb<(wr.setCell ⟨U,xn,none⟩ (.bool true)).heap.size;rw[setT_size];exact hGl.2⟩) (fun hHeld=>?_)
     clear hK K
     try simp only[Act.put,q1,q2,q3]
     refine wpAnyH_done (by kernel_rfl) ?_ _
     refine NoPanic.normal ?_
     clear hHeld p0 p1 p2 p3 p4 lP lU' cU fU cG hGl cU2 fU2 lU2
     go_wp2_with fail
     go_roundg (k - (i+1))
     case measure=>omega
     case rel=>exact⟨i+1,by omega,rfl,by go_num,HPN,HFN⟩
    ·obtain rfl:i=k:=by omega
     have HTK:Hid (nu9.take i=nu9):=List.take_of_length_le (by rw[HK.out];exact Nat.le_refl _)
     rw[HTK.out] at HP
     obtain⟨s0,hs0⟩:∃ s0,plS nu9=s0:=⟨_,rfl⟩
     have HS0:Hid (plS nu9=s0):=hs0
     rw[hs0] at HP
     clear hs0
     have k4r:=(HF.out.block M (by omega) (by omega)).trans k4c
     have k1r:=(HF.out.block (N+1) (by omega) (by omega)).trans k1c
     have HSr:Hid (SN wr (fun b=>b<M) u (.agg #[.bool u.leaf,.int .i64 u.page,.slice ka kn kc,.slice va vn vc,.slice oa on oc,.slice ya u.kids.length yc])):=HSc.out.keep (fun b hb hlt=>HF.out.block b hlt (by omega)) (fun _ h=>h) hsr
     have hpl:=l4Place_any u ⟨true,HGN.out.1⟩ HGN.out.2.1 (fun _=>False) P U none 0 0 none 0 0 tx s0 wr (fun b=>b<M) (.agg #[.bool u.leaf,.int .i64 u.page,.slice ka kn kc,.slice va vn vc,.slice oa on oc,.slice ya u.kids.length yc]) (fun _ e=>e.elim) HP.out (by rw[<-HS0.out];rfl) (by rw[<-HS0.out];rfl) HSr.out (fun g q=>⟨by omega,fun e=>by rcases e with e | e | e | e<;>(try omega)<;>simp[Value.ownBlock] at e⟩) (by have:=HGN.out.2.2;omega) (by have:=HGN.out.2.2;omega)
     unfold PlAns at hpl
     obtain⟨z,hz⟩:∃ z,(placeT u s0).1=z:=⟨_,rfl⟩
     obtain⟨s3,hs3⟩:∃ s3,(placeT u s0).2=s3:=⟨_,rfl⟩
     have HZ:Hid ((placeT u s0).1=z∧(placeT u s0).2=s3):=⟨hz,hs3⟩
     rw[hz,hs3] at hpl
     obtain⟨q0,q1,q2,q3,q4,q5⟩:=box6g k4r
     have lM:=(Array.getElem?_eq_some_iff.1 k4r).1
     have bR:Below N w wr:=bC.trans (HF.out.below (by omega) (fun g e=>by omega))
     clear hz hs3 HSc k4c k1c bC HF HP HSr
     go_upto_region 12 with (go_at_call 21;refine hpl.mono ?_;rintro e w9 ⟨v9,Q9,pa2,A2,pc2,na2,B2,nc2,rfl,⟨ka9,kn9,kc9,va9,vn9,vc9,oa9,on9,oc9,ya9,yc9,css9,rfl,hX9⟩,hp9,hf9,hz9,hq9,hA9,hB9,hA8,hB8⟩)
     have HA8:Hid (A2=s3.log.length∧B2=s3.log.length):=⟨hA8,hB8⟩
     have k19:=(hf9.block (N+1) (by omega) (fun e=>by rcases e with e | e | e | e<;>(try omega)<;>simp[Value.ownBlock] at e)).trans k1r
     have b9:Below N w w9:=bR.trans (hf9.below (by omega) (fun g e=>by rcases e with e | e | e | e<;>(try omega)<;>simp[Value.ownBlock] at e))
     have al9:=(Below.refl w9.heap.size w9).alloc (Nat.le_refl _) (.cells #[.bool z.leaf,.int .i64 z.page,.slice ka9 kn9 kc9,.slice va9 vn9 vc9,.slice oa9 on9 oc9,.slice ya9 z.kids.length yc9] 49)
     have kE:=heap_alloc_new w9 (.cells #[.bool z.leaf,.int .i64 z.page,.slice ka9 kn9 kc9,.slice va9 vn9 vc9,.slice oa9 on9 oc9,.slice ya9 z.kids.length yc9] 49)
     generalize w9.alloc (.cells #[.bool z.leaf,.int .i64 z.page,.slice ka9 kn9 kc9,.slice va9 vn9 vc9,.slice oa9 on9 oc9,.slice ya9 z.kids.length yc9] 49)=V at al9 kE ⊢
     have HN1:Hid (∀ g,ZP P U (.slice pa2 A2 pc2) (.slice na2 B2 nc2) g->g≠N+1):=fun g e q=>by
      rcases hz9 g e with e | e
      ·rcases e with e | e | e | e<;>(try omega)<;>simp[Value.ownBlock] at e
      ·have:=(Array.getElem?_eq_some_iff.1 k1r).1;omega
     have HPV:Hid (PAt (fun _=>False) V P U (.slice pa2 A2 pc2) A2 (.slice na2 B2 nc2) B2 tx s3):=hp9.below al9
     have hXV:=hX9.keep (w':=V) (fun g q hlt=>al9.block g hlt) (fun _ q=>q) al9.size
     have k1V:=(al9.block (N+1) (Array.getElem?_eq_some_iff.1 k19).1).trans k19
     have s9:=b9.size
     have bV:Below N w V:=b9.trans (al9.mono (by omega))
     obtain⟨E,hE⟩:∃ E,w9.heap.size=E:=⟨_,rfl⟩
     have hEN:N+1<E:=by have:=(Array.getElem?_eq_some_iff.1 k19).1;omega
     have hPE:P<E:=by have:=hp9.lt (.inl rfl);omega
     rw[hE] at kE ⊢
     obtain⟨p0,p1,p2,p3,p4⟩:=box5P HPV.out.box
     have lP:=HPV.out.lt (.inl rfl)
     clear hpl hX9 hp9 hf9 hz9 hq9 hA9 hB9 hA8 hB8 k19 b9 al9 q0 q1 q2 q3 q4 q5 lM k4r k1r bR hE
     cases hbad:s3.bad
     ·rw[hbad] at p4
      have HPB:Hid ((placeT u s0).2.bad=false):=by show _=_;rw[HZ.out.2];exact hbad
      have hus:∀ x ∈ u.nums,Us s0 x:=fun x hx=>by
       rw[<-HS0.out,<-HA9.out]
       exact plS_us (List.mem_append_right _ hx) (by have:=HPG.out x hx;simp[pgB] at this;omega)
      obtain⟨hst2,hpr2,hln2⟩:=HST.out.place (s:=s0) (by rw[<-HS0.out];exact plS_len _) hus HPB.out
      rw[HZ.out.1] at hst2 hln2
      obtain⟨_,_,hg2,hsh2,_,htn2,_,hky2⟩:=topT_good hst2.top
      have htr:∀ V2:World,Below V.heap.size V V2->Calls Tryz.prog 22 #[.agg #[.bool z.leaf,.int .i64 z.page,.slice ka9 kn9 kc9,.slice va9 vn9 vc9,.slice oa9 on9 oc9,.slice ya9 z.kids.length yc9]] V2 fun e w'=>∃ g c css,e=.returned (.agg #[.slice (some ⟨g,0,none⟩) (z.flat 0).length c])∧FlatAt w' V2.heap.size g c css (z.flat 0)∧Below V2.heap.size V2 w':=fun V2 hV2=>l3Tree_any V.heap.size z ⟨true,hg2⟩ (by omega) hky2 V2 ka9 kn9 kc9 va9 vn9 vc9 oa9 on9 oc9 ya9 yc9 css9 hV2.size (hXV.nx.belowC hV2)
      have HTR:Hid _:=htr
      have HPR:Hid (plQ ts tx tk=(z.flat 0,s3.log)):=by
       show _=_
       rw[plQ_ok HTX.out HST.out.top (by rw[HA9.out,HS0.out];exact HPB.out),HA9.out,HS0.out,HZ.out.2,HZ.out.1]
      obtain⟨fl,hfl⟩:∃ fl,z.flat 0=fl:=⟨_,rfl⟩
      rw[hfl] at HPR
      have HFL:Hid (∀ V2:World,Below V.heap.size V V2->Calls Tryz.prog 22 #[.agg #[.bool z.leaf,.int .i64 z.page,.slice ka9 kn9 kc9,.slice va9 vn9 vc9,.slice oa9 on9 oc9,.slice ya9 z.kids.length yc9]] V2 fun e w'=>∃ g c css,e=.returned (.agg #[.slice (some ⟨g,0,none⟩) fl.length c])∧FlatAt w' V2.heap.size g c css fl∧Below V2.heap.size V2 w'):=by rw[<-hfl];exact htr
      have k0E:=kE
      have lE:=(Array.getElem?_eq_some_iff.1 kE).1
      have l1:=(Array.getElem?_eq_some_iff.1 k1V).1
      clear htr HTR hst2 hpr2 hln2 hg2 hsh2 htn2 hky2 hus hbad hfl
      go_upto_region 14 with fail
      have bV0:=(Below.refl V.heap.size V).drew
      refine wp_region_noPanic ?_
      refine wp_region_held_drew (S:=(fun w':World=>((w'.heap[P]?=V.heap[P]?∧P<w'.heap.size)∧w'.heap[E]?=V.heap[E]?∧E<w'.heap.size))) (by kernel_rfl) (⟨⟨rfl,lP⟩,rfl,lE⟩) (fun hHeld=>?_)
      refine tY 0 (.agg #[.bool z.leaf,.int .i64 z.page,.slice ka9 kn9 kc9,.slice va9 vn9 vc9,.slice oa9 on9 oc9,.slice ya9 z.kids.length yc9]) .z (by kernel_rfl) (by rfl) ?_ ‹_› ?_
      ·intro wq hSw;(try dsimp only at hSw);obtain⟨y0,y1,y2,y3,y4,y5⟩:=box6g (hSw.2.1.trans kE);have lq:=hSw.2.2;go_simp
      refine tY 2 (.pointer (some ⟨P,0,none⟩)) (.s (.s .z)) (by kernel_rfl) (by rfl) ?_ ‹_› ?_
      ·intro wq hSw;go_simp
      refine tY 3 (.pointer (some ⟨P,0,none⟩)) (.s (.s (.s .z))) (by kernel_rfl) (by rfl) ?_ ‹_› ?_
      ·intro wq hSw;go_simp
      refine tY 4 (.pointer (some ⟨P,2,none⟩)) (.s (.s (.s (.s .z)))) (by kernel_rfl) (by rfl) ?_ ‹_› ?_
      ·intro wq hSw;go_simp
      try simp only[Act.put,q1,q2,q3]
      refine tY 5 (.slice pa2 A2 pc2) (.f .z) (by kernel_rfl) (by rfl) ?_ ‹_› ?_
      ·intro wq hSw;(try dsimp only at hSw);obtain⟨y0,y1,y2,y3,y4⟩:=box5P (hSw.1.1.trans HPV.out.box);have lq:=hSw.1.2;go_simp
      refine tY 6 (.pointer (some ⟨P,0,none⟩)) (.f (.s .z)) (by kernel_rfl) (by rfl) ?_ ‹_› ?_
      ·intro wq hSw;go_simp
      refine tY 7 (.pointer (some ⟨P,0,none⟩)) (.f (.s (.s .z))) (by kernel_rfl) (by rfl) ?_ ‹_› ?_
      ·intro wq hSw;go_simp
      refine tY 8 (.pointer (some ⟨P,3,none⟩)) (.f (.s (.s (.s .z)))) (by kernel_rfl) (by rfl) ?_ ‹_› ?_
      ·intro wq hSw;go_simp
      try simp only[Act.put,q1,q2,q3]
      refine tY 9 (.slice na2 B2 nc2) (.f (.s (.s (.s (.s .z))))) (by kernel_rfl) (by rfl) ?_ ‹_› ?_
      ·intro wq hSw;(try dsimp only at hSw);obtain⟨y0,y1,y2,y3,y4⟩:=box5P (hSw.1.1.trans HPV.out.box);have lq:=hSw.1.2;go_simp
      try simp only[Act.put,q1,q2,q3]
      clear hHeld
      generalize V.drew=D at bV0 ⊢
      have hHeld:(D.heap[P]?=V.heap[P]?∧P<D.heap.size)∧D.heap[E]?=V.heap[E]?∧E<D.heap.size:=⟨⟨bV0.block P lP,Nat.lt_of_lt_of_le lP bV0.size⟩,bV0.block E lE,Nat.lt_of_lt_of_le lE bV0.size⟩
      refine wpAnyH_ready (rs:=[1]) (by kernel_rfl) (by simp) ?_
      refine rdA (.s .z) (fun K hK=>?_) AllReadyH.nil
      go_simp
      refine (HFL.out D bV0).mono ?_
      rintro e w7 ⟨g7,c7,css7,rfl,hF7,b7⟩
      have bD7:Below V.heap.size V w7:=bV0.trans (b7.mono bV0.size)
      have HN7:Hid (NodesAt w7 N w7.heap.size (some ⟨g7,0,none⟩) fl.length c7 fl):=hF7.nodes.up (by have:=bV0.size;have:=bV.size;omega) (Nat.le_refl _)
      have hF7l:N+1<D.heap.size:=by have:=bV0.size;omega
      have HN72:Hid (NodesAt w7 D.heap.size w7.heap.size (some ⟨g7,0,none⟩) fl.length c7 fl):=hF7.nodes
      have k17:=(bD7.block (N+1) l1).trans k1V
      obtain⟨z0,z1,z2⟩:=box3P k17
      have f1:=thawT k17
      have l17:=(Array.getElem?_eq_some_iff.1 k17).1
      have bN7:Below N w w7:=bV.trans (bD7.mono (by have:=bV.size;omega))
      clear hF7
      go_wp2_with fail
      refine hK.out _ _ (⟨⟨bD7.block P lP,Nat.lt_of_lt_of_le lP bD7.size⟩,bD7.block E lE,Nat.lt_of_lt_of_le lE bD7.size⟩) (fun hHeld=>?_)
      clear hK K
      refine tY 10 (.agg #[.slice (some ⟨g7,0,none⟩) fl.length c7,.slice pa2 A2 pc2,.slice na2 B2 nc2]) (.t .z) (by kernel_rfl) (by rfl) ?_ ‹_› ?_
      ·intro wq hSw;go_simp
      try simp only[Act.put,q1,q2,q3]
      refine wpAnyH_ready (rs:=[11]) (by kernel_rfl) (by simp) ?_
      refine rdA (.t (.s .z)) (fun K hK=>?_) AllReadyH.nil
      have fb:=put3P_fr w7 (N+1) (.slice (some ⟨g7,0,none⟩) fl.length c7) (.slice pa2 A2 pc2) (.slice na2 B2 nc2)
      have kf:=put3P_box k17 (.slice (some ⟨g7,0,none⟩) fl.length c7) (.slice pa2 A2 pc2) (.slice na2 B2 nc2)
      have HB:Hid (Below w.heap.size w (put3P w7 (N+1) (.slice (some ⟨g7,0,none⟩) fl.length c7) (.slice pa2 A2 pc2) (.slice na2 B2 nc2))):=by show Below _ _ _;rw[hN];exact bN7.trans (fb.below (by have:=bN7.size;omega) (fun g e=>by omega))
      have HNF:Hid (NodesAt (put3P w7 (N+1) (.slice (some ⟨g7,0,none⟩) fl.length c7) (.slice pa2 A2 pc2) (.slice na2 B2 nc2)) w.heap.size (put3P w7 (N+1) (.slice (some ⟨g7,0,none⟩) fl.length c7) (.slice pa2 A2 pc2) (.slice na2 B2 nc2)).heap.size (some ⟨g7,0,none⟩) fl.length c7 fl):=by
       have h9:=HN72.out.keep (w':=put3P w7 (N+1) (.slice (some ⟨g7,0,none⟩) fl.length c7) (.slice pa2 A2 pc2) (.slice na2 B2 nc2)) (fun q h4 h5=>fb.block q (by omega) (by omega))
       exact h9.up (by rw[hN];omega) fb.size
      have HNR:Hid ((∃ pa pc,Value.slice pa2 A2 pc2=.slice pa s3.log.length pc∧PgsAt (put3P w7 (N+1) (.slice (some ⟨g7,0,none⟩) fl.length c7) (.slice pa2 A2 pc2) (.slice na2 B2 nc2)) 0 (put3P w7 (N+1) (.slice (some ⟨g7,0,none⟩) fl.length c7) (.slice pa2 A2 pc2) (.slice na2 B2 nc2)).heap.size tx pa s3.log.length pc (s3.log.map Prod.snd))∧∃ na nc,Value.slice na2 B2 nc2=.slice na s3.log.length nc∧RowsAt (put3P w7 (N+1) (.slice (some ⟨g7,0,none⟩) fl.length c7) (.slice pa2 A2 pc2) (.slice na2 B2 nc2)) 0 (put3P w7 (N+1) (.slice (some ⟨g7,0,none⟩) fl.length c7) (.slice pa2 A2 pc2) (.slice na2 B2 nc2)).heap.size 1 intCells (fun _=>True) 0 na s3.log.length nc (s3.log.map Prod.fst)):=by
       refine PAt.read (X:=fun _=>False) (P:=P) (U:=U) ((HPV.out.below bD7).fr fb (fun g e q=>?_) (fun g q=>.inr (q ▸ nk_blk k17 (by decide) (by decide)))) HA8.out.1 HA8.out.2
       exact absurd (HN1.out g e) (by omega)
      obtain⟨y0,y1,y2⟩:=box3P kf
      go_simp
      rw[put3P_eq]
      clear z0 z1 z2 f1 kf
      refine hK.out _ _ (⟨⟨(fb.block P (Nat.lt_of_lt_of_le lP bD7.size) (by omega)).trans (bD7.block P lP),Nat.lt_of_lt_of_le (Nat.lt_of_lt_of_le lP bD7.size) fb.size⟩,(fb.block E (Nat.lt_of_lt_of_le lE bD7.size) (by omega)).trans (bD7.block E lE),Nat.lt_of_lt_of_le (Nat.lt_of_lt_of_le lE bD7.size) fb.size⟩) (fun hHeld=>?_)
      clear hK K
      try simp only[Act.put,q1,q2,q3]
      refine wpAnyH_done (by kernel_rfl) ?_ _
      refine NoPanic.normal ?_
      clear hHeld
      go_wp2_with fail
      refine bodyPost_ret (v:=.agg #[.slice (some ⟨g7,0,none⟩) fl.length c7,.slice pa2 A2 pc2,.slice na2 B2 nc2]) (by simp[results,Tryz.results5,go_sem,y0,y1,y2]) rfl ?_
      obtain⟨⟨pa3,pc3,e3,hp3⟩,na3,nc3,e4,hn3⟩:=HNR.out
      refine⟨?_,HB.out⟩
      unfold PlcAns
      rw[HPR.out]
      exact⟨_,c7,pa3,pc3,na3,nc3,by rw[e3,e4],HNF.out,hp3,hn3⟩
     ·rw[hbad] at p4
      have HPR:Hid (plQ ts tx tk=([],[])):=plQ_bad HST.out.top (by rw[HA9.out,HS0.out,HZ.out.2];exact hbad)
      obtain⟨z0,z1,z2⟩:=box3P k1V
      have f1:=thawT k1V
      have l1:=(Array.getElem?_eq_some_iff.1 k1V).1
      have kf:=put3P_box k1V (.slice none 0 0) (.slice none 0 0) (.slice none 0 0)
      obtain⟨y0,y1,y2⟩:=box3P kf
      have HB:Hid (Below w.heap.size w (put3P V (N+1) (.slice none 0 0) (.slice none 0 0) (.slice none 0 0))):=by show Below _ _ _;rw[hN];exact bV.trans ((put3P_fr V (N+1) _ _ _).below (by have:=bV.size;omega) (fun g e=>by omega))
      clear kf hbad
      go_wp2_with fail
      rw[put3P_eq]
      refine bodyPost_ret (v:=.agg #[.slice none 0 0,.slice none 0 0,.slice none 0 0]) (by simp[results,Tryz.results5,go_sem,y0,y1,y2]) rfl ?_
      exact⟨plcAns_nil HPR.out,HB.out⟩
end Go.Proofs.YtkhglgalbifcnaaGreat
