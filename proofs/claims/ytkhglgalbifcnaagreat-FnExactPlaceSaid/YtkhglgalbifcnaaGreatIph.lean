import Derived.Test.YtkhglgalbifcnaaGreatGAA
import Derived.Test.YtkhglgalbifcnaaGreatTgh
import Derived.Test.YtkhglgalbifcnaaGreatGAY
import Derived.Test.YtkhglgalbifcnaaGreatIpf
import Derived.Test.YtkhglgalbifcnaaGreatTpr
import Derived.Test.YtkhglgalbifcnaaGreatIpg
namespace Go.Proofs.YtkhglgalbifcnaaGreat
open Go.RowKit
set_option linter.unusedVariables false
set_option linter.unusedSimpArgs false
set_option maxRecDepth 100000
theorem offs_all {p:TN->Prop}:∀ (l:List (Nat->List TN)) (s:Nat),(∀ g ∈ l,∀ s,∀ x ∈ g s,p x)->∀ x ∈ offs s l,p x
 | [],s,h,x,hx=>by simp[offs] at hx
 | g::r,s,h,x,hx=>by
  rw[offs,List.mem_append] at hx
  rcases hx with hx | hx
  ·exact h g (by simp) s x hx
  ·exact offs_all r _ (fun q hq=>h q (by simp[hq])) x hx
theorem flat_over:∀ (t:T),(∃ r,t.good r=true)->∀ s,∀ x ∈ t.flat s,x.over.length<=4:=by
 intro t
 induction t using T.ind with
 | h t ih =>
  rintro ⟨r,hg⟩ s x hx
  have hgp:=good_parts hg
  rw[T.flat_eq] at hx
  cases hl:t.leaf
  ·rw[hl] at hx
   simp only[Bool.false_eq_true,if_false,List.mem_cons] at hx
   rcases hx with rfl | hx
   ·simp
   ·refine offs_all (p:=fun x=>x.over.length<=4) _ _ (fun g hg s x hx=>?_) x hx
    obtain⟨k,hk,rfl⟩:=List.mem_map.1 hg
    exact ih k hk ⟨false,hgp.2.2 k hk⟩ s x hx
  ·rw[hl] at hx
   simp only[if_true,List.mem_singleton] at hx
   subst hx
   have h1:=hgp.1.2
   have h2:=(hgp.2.1 hl).2.1
   simp only[T.size,hl,if_true] at h1
   show t.over.length<=4
   omega
theorem offs_pages (x:Int):∀ (y:List T) (s:Nat),(∀ k ∈ y,∀ s,(x ∈ (k.flat s).flatMap pgsN ↔ x ∈ k.nums))->(x ∈ (offs s (y.map T.flat)).flatMap pgsN ↔ x ∈ (y.map T.nums).flatten)
 | [],s,h=>by simp[offs]
 | k::r,s,h=>by
  rw[List.map_cons,offs,List.flatMap_append,List.mem_append,List.map_cons,List.flatten_cons,List.mem_append,h k (by simp) s,offs_pages x r _ (fun q hq=>h q (by simp[hq]))]
theorem flat_nums (x:Int) (hx:x≠0):∀ (t:T),Neat t->∀ s,(x ∈ (t.flat s).flatMap pgsN ↔ x ∈ t.nums):=by
 intro t
 induction t using T.ind with
 | h t ih =>
  intro hne s
  have hn:=(neat_eq t).1 hne
  rw[T.flat_eq,T.nums_eq]
  cases hl:t.leaf
  ·obtain⟨_,_,ho,_⟩:=hn.2.1 hl
   simp only[Bool.false_eq_true,if_false,List.flatMap_cons,List.mem_append,ho,List.filter_nil,List.not_mem_nil,or_false]
   rw[offs_pages x t.kids (s+1) (fun k hk s=>ih k hk (hn.2.2 k hk) s)]
   have:x ∈ pgsN ⟨false,t.page,t.kids.tail.map T.low,[],[],startsN (s+1) (t.kids.map T.nodes)⟩ ↔ x ∈ (if t.page=0 then [] else [t.page]):=by
    show x ∈ [t.page] ↔ _
    by_cases hp:t.page=0
    ·rw[if_pos hp,hp];simp[hx]
    ·rw[if_neg hp]
   rw[this]
  ·have hk:=hn.1 hl
   rw[hk]
   simp only[if_true,List.flatMap_cons,List.flatMap_nil,List.append_nil,List.map_nil,List.flatten_nil,List.mem_append]
   show x ∈ t.page::t.over ↔ _
   by_cases hp:t.page=0
   ·rw[if_pos hp,hp]
    simp[hx]
   ·rw[if_neg hp]
    simp[hx]
theorem marksU_get:∀ (xs:List Int) (l:List Bool) (k:Nat),l.length=1000->k<1000->(marksU l xs).getD k true=(l.getD k true || decide ((k:Int) ∈ xs))
 | [],l,k,_,_=>by simp[marksU]
 | x::r,l,k,hl,hk=>by
  show (marksU (markU l x) r).getD k true=_
  rw[marksU_get r _ k (by rw[markU_len,hl]) hk]
  unfold markU
  split
  ·rename_i hx
   rw[getD_setI]
   have e:decide (k=x.toNat)=decide ((k:Int)=x):=by
    rw[decide_eq_decide]
    omega
   rw[e]
   simp only[List.mem_cons,Bool.decide_or]
   cases decide ((k:Int)=x)<;>cases l.getD k true<;>simp
  ·rename_i hx
   have e:¬ ((k:Int)=x):=by omega
   simp[e]
theorem frees_plS (xs:List Int):freeN (plS xs)=freesN xs:=by
 unfold freeN freesN freeTo
 congr 1
 apply List.filter_congr
 intro k hk
 have hk2:=List.mem_range'_1.1 hk
 unfold frB
 show (!(marksU (List.replicate 1000 false) xs).getD k true)=_
 rw[marksU_get _ _ _ (by simp) (by omega)]
 have e:(List.replicate 1000 false).getD k true=false:=by
  rw[List.getD_eq_getElem?_getD,List.getElem?_replicate,if_pos (by omega)]
  rfl
 rw[e,Bool.false_or]
theorem frees_eq {tk:List Int} {u:T} (h:Neat u):freesN (tk++(u.flat 0).flatMap pgsN)=freeN (plS (tk++u.nums)):=by
 rw[frees_plS]
 unfold freesN freeTo
 congr 1
 apply List.filter_congr
 intro k hk
 have hk2:=List.mem_range'_1.1 hk
 congr 1
 rw[decide_eq_decide,List.mem_append,List.mem_append,flat_nums _ (by omega) u h 0]
theorem free_rows {w:World} {base n c:Nat} {a:Option Addr} {xs:List Int} (h:w.ownsRow base 2 1 (.slice a n c) n (rowsOf intCells xs)) (hl:xs.length=n):RowsAt w 0 w.heap.size 1 intCells (fun _=>True) 0 a n c xs:=by
 refine⟨hl,?_,?_,fun _ _=>trivial,fun hn=>?_⟩
 ·rcases h.2 with ⟨e,_⟩ | ⟨g,cap,cur,e,h1,h2,h3,h4,_⟩
  ·simp only[Value.slice.injEq] at e;omega
  ·simp only[Value.slice.injEq] at e;omega
 ·rcases h.2 with ⟨e,_⟩ | ⟨g,cap,cur,e,h1,h2,h3,h4,_⟩
  ·simp only[Value.slice.injEq] at e;omega
  ·simp only[Value.slice.injEq] at e;omega
 ·rcases h.2 with ⟨e,_⟩ | ⟨g,cap,cur,e,h1,h2,h3,h4,_⟩
  ·simp only[Value.slice.injEq] at e;omega
  ·simp only[Value.slice.injEq] at e
   obtain⟨rfl,_,rfl⟩:=e
   refine⟨g,0,rfl,⟨Nat.zero_le _,(Array.getElem?_eq_some_iff.1 h2).1⟩,fun i hi j hj=>?_⟩
   obtain rfl:j=0:=by omega
   rw[show 0+i*1+0=i by omega,h.cellAt i (by omega),ints_mapI]
   simp[List.getD,show i<xs.length by omega,intCells]
theorem own_raise {w:World} {e size n lo:Nat} {v:Value} {xs:List Value} (h:w.ownsRow 0 e size v n xs) (hb:∀ g,v.ownBlock=some g->lo<=g):w.ownsRow lo e size v n xs:=by
 refine⟨h.1,?_⟩
 rcases h.2 with q | ⟨g,cap,cur,e1,h1,h2⟩
 ·exact .inl q
 ·exact .inr ⟨g,cap,cur,e1,hb g (by rw[e1];rfl),h2⟩
structure PgsO (w:World) (lo M:Nat) (tx:Int) (v:Value) (pl:List PgC) (css:List (List Value)):Prop where
 row:w.ownsRow lo 93 9 v pl.length css.flatten
 rb:∀ g,v.ownBlock=some g->g<M
 cl:css.length=pl.length
 pgs:∀ (i:Nat) cs,css[i]?=some cs->∃ c,pl[i]?=some c∧PgIs (fun g=>¬ (lo<=g∧g<M)) w tx cs c
 ap:∀ (i j:Nat) ci cj g,css[i]?=some ci->css[j]?=some cj->KB ci g->KB cj g->i=j
def PlOwn (ts:List TN) (tx:Int) (tk:List Int) (lo:Nat) (e:Ending) (w':World):Prop:=∃ (M:Nat) (oa:Option Addr) (oc:Nat) (pa:Option Addr) (pc:Nat) (na:Option Addr) (nc:Nat) (us:Nat->Nat->Value) (css:List (List Value)),lo<=M∧M<=w'.heap.size∧e=.returned (.agg #[.slice oa (plQ ts tx tk).1.length oc,.slice pa (plQ ts tx tk).2.length pc,.slice na (plQ ts tx tk).2.length nc])∧OwnT w' M (.slice oa (plQ ts tx tk).1.length oc) ((plQ ts tx tk).1.map TN.nd) us∧PgsO w' lo M tx (.slice pa (plQ ts tx tk).2.length pc) ((plQ ts tx tk).2.map Prod.snd) css∧w'.ownsRow lo 2 1 (.slice na (plQ ts tx tk).2.length nc) (plQ ts tx tk).2.length (rowsOf intCells ((plQ ts tx tk).2.map Prod.fst))∧∀ g,(Value.slice na (plQ ts tx tk).2.length nc).ownBlock=some g->g<M
theorem plOwn_nil {ts:List TN} {tx:Int} {tk:List Int} {lo:Nat} {w':World} (h:plQ ts tx tk=([],[])) (hlo:lo<=w'.heap.size):PlOwn ts tx tk lo (.returned (.agg #[.slice none 0 0,.slice none 0 0,.slice none 0 0])) w':=by
 refine⟨w'.heap.size,none,0,none,0,none,0,fun _ _=>.slice none 0 0,[],hlo,Nat.le_refl _,by rw[h];rfl,?_⟩
 rw[h]
 exact⟨OwnT.nil _ _ _,⟨⟨rfl,.inl ⟨rfl,rfl⟩⟩,fun g e=>by simp[Value.ownBlock] at e,rfl,fun i cs hi=>by simp at hi,fun i j ci cj g hi=>by simp at hi⟩,⟨rfl,.inl ⟨rfl,rfl⟩⟩,fun g e=>by simp[Value.ownBlock] at e⟩
theorem isStamp_anyI (x:Int) (w:World):Calls Tryz.prog 25 #[.int .i64 x] w fun e w'=>e=.returned (.bool (decide (1<=x∧x<=2000000000)))∧w'=w:=by
 by_cases h1:1<=x
 ·have e:decide (1<=x∧x<=2000000000)=decide (x<=2000000000):=by simp[h1]
  rw[e]
  go_enter Tryz.func25,Tryz.ntmps25
  go_wp2_with fail
  go_ret
  exact⟨rfl,rfl⟩
 ·have e:decide (1<=x∧x<=2000000000)=false:=by simp[h1]
  rw[e]
  go_enter Tryz.func25,Tryz.ntmps25
  go_wp2_with fail
  go_ret
  exact⟨rfl,rfl⟩
set_option maxHeartbeats 8000000 in
theorem implPlace_any (ts:List TN) (a:Option Addr) (n c A B:Nat) (w:World) (hB:B<=w.heap.size) (hT:NodesAt w A B a n c ts) (tx:Int) (tk:List Int) (ta:Option Addr) (tn tc A0 B0:Nat) (hB2:B0<=w.heap.size) (hTk:IntsAt w A0 B0 ta tn tc tk) (htn:tn<=1048576) :
  Calls Tryz.prog 8 #[.agg #[.slice a n c],.int .i64 tx,.slice ta tn tc] w fun e w'=>PlOwn ts tx tk w.heap.size e w'∧Below w.heap.size w w':=by
 obtain⟨N,hN⟩:∃ N,w.heap.size=N:=⟨_,rfl⟩
 obtain⟨W,hW⟩:∃ W,W=(w.alloc (.cells #[.slice a n c] 29)).alloc (.cells #[.slice none 0 0,.slice none 0 0,.slice none 0 0] 32):=⟨_,rfl⟩
 have b1:Below N w W:=by rw[hW,<-hN];exact ((Below.refl _ _).alloc (Nat.le_refl _) _).alloc (by simp) _
 have hs0:(w.alloc (.cells #[.slice a n c] 29)).heap.size=N+1:=by simp[hN]
 have kT:W.heap[N]?=some (.cells #[.slice a n c] 29):=by
  rw[hW]
  exact (((Below.refl (w.alloc (.cells #[.slice a n c] 29)).heap.size _).alloc (Nat.le_refl _) _).block N (by omega)).trans (hN ▸ heap_alloc_new w _)
 have kR:W.heap[N+1]?=some (.cells #[.slice none 0 0,.slice none 0 0,.slice none 0 0] 32):=by rw[hW,<-hs0];exact heap_alloc_new _ _
 have hsW:W.heap.size=N+2:=by rw[hW];simp[hN]
 have HTW:Hid (∀ V,Below N w V->NodesAt V A B a n c ts):=fun V hV=>hT.keep (.of_below (hV.mono (by omega)))
 have HKW:Hid (∀ V,Below N w V->IntsAt V A0 B0 ta tn tc tk):=fun V hV=>hTk.keep (.of_below (hV.mono (by omega)))
 have hgr:=grow_any ts a n c A B W (by omega) (HTW.out W b1)
 have HB1:Hid (Below N w W):=b1
 have HKT:Hid (W.heap[N]?=some (.cells #[.slice a n c] 29)):=kT
 have HKR:Hid (W.heap[N+1]?=some (.cells #[.slice none 0 0,.slice none 0 0,.slice none 0 0] 32)):=kR
 have HLN:Hid (ts.length=n):=hT.1
 have tc0:W.cell? ⟨N,0,none⟩=some (.slice a n c):=by simp[World.cell?,kT]
 have lT:N<W.heap.size:=by omega
 clear hT hTk kT kR b1 hs0
 go_enter Tryz.func8,Tryz.ntmps8
 go_upto_region 1 with fail
 rw[<-hW]
 clear hW
 go_wp2_with fail
 refine hgr.mono ?_
 rintro e w2 ⟨hno,hyes,hb2⟩
 have hs2:=hb2.size
 have hb2N:Below N w w2:=HB1.out.trans (hb2.mono (by omega))
 have HB2:Hid (Below N w w2):=hb2N
 have hT2:=(hb2.block N (by omega)).trans HKT.out
 have hR2:=(hb2.block (N+1) (by omega)).trans HKR.out
 have t2:w2.cell? ⟨N,0,none⟩=some (.slice a n c):=by simp[World.cell?,hT2]
 obtain⟨r0,r1,r2⟩:=box3P hR2
 have fR:=thawT hR2
 have l2:N<w2.heap.size:=by omega
 have l3:N+1<w2.heap.size:=by omega
 have HR2:Hid (w2.heap[N+1]?=some (.cells #[.slice none 0 0,.slice none 0 0,.slice none 0 0] 32)):=hR2
 have HT2:Hid (w2.heap[N]?=some (.cells #[.slice a n c] 29)):=hT2
 clear hgr hT2 hR2
 by_cases hok:ImplOk ts
 ·obtain⟨t,met,u,hgr,hall,hasc,rfl,hGM⟩:=hyes hok
  have htop:=topT_yes hok hgr
  obtain⟨_,_,hgood,hshape,hht,hnn,_,_⟩:=topT_good htop
  have hneat:=topT_neat htop
  have hwhole:=good_whole t true hgood hshape
  have hfl:t.flat 0=ts∧1<=ts.length∧ts.length<=1000:=by
   have hsp:=(valid_iff ts).2 hok
   have e:=topT_rd hsp
   obtain⟨h1,t',hr,_,_,_,_,_,hf,_⟩:=hsp
   rw[htop,hr] at e
   simp only[Option.some.injEq] at e
   rw[e]
   exact⟨hf,h1⟩
  have HTOP:Hid (topT ts=some t∧t.good true=true∧Neat t∧t.whole=true∧t.nodes<=1000∧t.flat 0=ts):=⟨htop,hgood,hneat,hwhole,hnn,hfl.1⟩
  obtain⟨ty,vv,rfl⟩:=hGM.shape
  have HGM:Hid (GM w2 (fun b=>W.heap.size<=b∧b<w2.heap.size) t (.iface ty vv)):=hGM
  have hn1:1<=n:=by have:=HLN.out;omega
  have hn2:n<=1000:=by have:=HLN.out;omega
  clear hno hyes hGM htop hgood hshape hht hneat hwhole hgr hall hasc
  by_cases hst:1<=tx∧tx<=2000000000
  ·have hsm:=isStamp_anyI tx w2
   rw[decide_eq_true hst] at hsm
   have HST:Hid (1<=tx∧tx<=2000000000):=hst
   have hfp:=freePages_any ts a n c A B w2 (by omega) (HTW.out w2 hb2N) hn1 hn2 (fun j hj=>by
    have h1:=HTOP.out.2.2.2.2.2
    have hjl:j<ts.length:=by have:=HLN.out;omega
    have:=flat_over t ⟨true,HTOP.out.2.1⟩ 0 (ts.getD j dT) (by rw[h1];simp[List.getD,List.getElem?_eq_getElem hjl])
    exact this) tk ta tn tc A0 B0 (by omega) (HKW.out w2 hb2N) htn
   rw[<-HTOP.out.2.2.2.2.2,frees_eq HTOP.out.2.2.1] at hfp
   clear hst hfl hb2N
   go_wp2_with fail
   refine hsm.mono ?_
   rintro e w2' ⟨rfl,rfl⟩
   go_wp2_with fail
   refine hfp.mono ?_
   rintro e w3 ⟨fa,fn,fc,rfl,hfo,hb3⟩
   obtain⟨s0,hs0⟩:∃ s0,plS (tk++t.nums)=s0:=⟨_,rfl⟩
   have HS0:Hid (plS (tk++t.nums)=s0):=hs0
   rw[hs0] at hfo
   have HB3:Hid (Below w2'.heap.size w2' w3):=hb3
   have HFO:Hid (w3.ownsRow w2'.heap.size 2 1 (.slice fa fn fc) fn (rowsOf intCells (freeN s0))):=hfo
   have hs3:=hb3.size
   clear hs0 hfo hb3 hfp hsm
   go_upto_region 5 with fail
   obtain⟨W5,hW5⟩:∃ W5,W5=w3.alloc (.cells #[.int .i64 tx,.slice fa fn fc,.bool false,.slice none 0 0,.slice none 0 0] 68):=⟨_,rfl⟩
   have b5:Below w3.heap.size w3 W5:=by rw[hW5];exact (Below.refl _ _).alloc (Nat.le_refl _) _
   have k5:W5.heap[w3.heap.size]?=some (.cells #[.int .i64 tx,.slice fa fn fc,.bool false,.slice none 0 0,.slice none 0 0] 68):=by rw[hW5];exact heap_alloc_new w3 _
   have s5:W5.heap.size=w3.heap.size+1:=by rw[hW5];simp
   rw[<-hW5]
   clear hW5
   have HBN5:Hid (Below N w W5):=HB2.out.trans ((HB3.out.mono (by omega)).trans (b5.mono (by omega)))
   have HB5:Hid (Below w2'.heap.size w2' W5):=HB3.out.trans (b5.mono (by omega))
   have ho5:=owns_below HFO.out b5
   have HQ5:Hid (QW W5 w3.heap.size (fun g=>g=w3.heap.size∨(Value.slice fa fn fc).ownBlock=some g) tx s0):=by
    have e0:s0=plS (tk++t.nums):=HS0.out.symm
    have hlf:(freeN s0).length=fn:=by have:=ho5.1;rw[rowsOf_length (m:=1) (cs:=intCells) (fun _=>rfl)] at this;omega
    have hfr:=free_rows ho5 hlf
    refine⟨fa,fn,fc,.slice none 0 0,.slice none 0 0,[],⟨.inl rfl,by rw[e0];exact k5,hfr,fun b off e=>?_,by rw[e0];exact⟨rfl,.inl ⟨rfl,rfl⟩⟩,fun g e=>by simp[Value.ownBlock] at e,by rw[e0];exact⟨rfl,.inl ⟨rfl,rfl⟩⟩,fun g e=>by simp[Value.ownBlock] at e,by rw[e0];rfl,fun i cs hi=>by simp at hi,fun i j ci cj g hi=>by simp at hi,fun g hg=>?_⟩⟩
    ·have hob:(Value.slice fa fn fc).ownBlock=some b:=by
      rcases ho5.2 with ⟨q,_⟩ | ⟨g,cap,cur,q,_⟩
      ·simp only[Value.slice.injEq] at q
       rw[q.1] at e
       simp at e
      ·simp only[Value.slice.injEq] at q
       rw[q.1] at e
       simp only[Option.some.injEq,Addr.mk.injEq] at e
       rw[q.1,<-e.1]
       rfl
     exact⟨.inr hob,by simp[Value.ownBlock],own_ty ho5 hob⟩
    ·rcases hg with e | e
     ·omega
     ·exact (ho5.lt g e).2
   have HG5:Hid (GM W5 (fun b=>W.heap.size<=b∧b<w2'.heap.size) t (.iface ty vv)):=GM.keep t _ _ _ (fun b hb=>HB5.out.block b hb.2) (fun _ e=>e) HGM.out
   have HZ5:Hid (∀ g,(g=w3.heap.size∨(Value.slice fa fn fc).ownBlock=some g)->w2'.heap.size<=g):=fun g e=>e.elim (fun e=>by omega) (fun e=>(ho5.lt g e).1)
   have hpl:=place_any t ⟨true,HTOP.out.2.1⟩ HTOP.out.2.2.1 HTOP.out.2.2.2.1 w3.heap.size _ _ tx s0 W5 ty vv HG5.out HQ5.out (fun g hg=>⟨by omega,fun e=>by have:=HZ5.out g e;omega⟩) (by rw[<-HS0.out];show 0+_<=_;have:=HTOP.out.2.2.2.2.1;omega)
   have HLP:Hid (∀ V,Below N w V->True):=fun _ _=>trivial
   clear ho5 k5
   go_wp2_with fail
   refine hpl.mono ?_
   rintro e w6 ⟨rfl,hG6,Z6,hQ6,hF6,hZ6⟩
   have hs6:=hF6.size
   have HBN6:Hid (Below N w w6):=HBN5.out.trans (hF6.below (by omega) (fun g e=>e.elim (fun e=>by have:=HZ5.out g e;omega) (fun e=>by omega)))
   have HR6:Hid (w6.heap[N+1]?=some (.cells #[.slice none 0 0,.slice none 0 0,.slice none 0 0] 32)):=(hF6.block (N+1) (by omega) (fun e=>e.elim (fun e=>by have:=HZ5.out _ e;omega) (fun e=>by omega))).trans ((HB5.out.block (N+1) (by omega)).trans HR2.out)
   have HZ6:Hid (∀ g,Z6 g->N+2<=g∧g<w6.heap.size):=fun g e=>⟨(hZ6 g e).elim (fun e=>by have:=HZ5.out g e;omega) (fun e=>by omega),hQ6.lt g e⟩
   obtain⟨fa6,fn6,fc6,pv,nv,css,q6⟩:=hQ6
   obtain⟨x0,x1,x2,x3,x4⟩:=box5P q6.box
   obtain⟨ra,rb,rc⟩:=box3P HR6.out
   have f6:=thawT HR6.out
   have l6:N+1<w6.heap.size:=by omega
   have lP6:w3.heap.size<w6.heap.size:=by omega
   obtain⟨pr,hpr⟩:∃ pr,placeT t s0=pr:=⟨_,rfl⟩
   rw[hpr] at hG6 q6 x2
   have HPR:Hid (placeT t (plS (tk++t.nums))=pr∧pr.1.whole=true∧pr.1.nodes<=1000):=⟨by rw[HS0.out,hpr],by rw[<-hpr];exact place_whole t HTOP.out.2.2.2.1 s0,by rw[<-hpr,place_nodes];exact HTOP.out.2.2.2.2.1⟩
   cases hbad:pr.2.bad
   ·have HPQ:Hid (plQ ts tx tk=(pr.1.flat 0,pr.2.log)):=by
     show _=_
     rw[plQ_ok HST.out HTOP.out.1 (by rw[HPR.out.1];exact hbad),HPR.out.1]
    obtain⟨pa,pc,hpv⟩:=own_shape q6.prow
    obtain⟨na,nc,hnv⟩:=own_shape q6.nrow
    have e1:(pr.2.log.map Prod.snd).length=pr.2.log.length:=List.length_map _
    have e2:(pr.2.log.map Prod.fst).length=pr.2.log.length:=List.length_map _
    rw[e1] at hpv
    rw[e2] at hnv
    subst hpv hnv
    obtain⟨m,hm⟩:∃ m,pr.2.log.length=m:=⟨_,rfl⟩
    rw[hm] at q6 x3 x4 e1 e2
    have HML:Hid (pr.2.log.length=m∧(pr.2.log.map Prod.snd).length=m∧(pr.2.log.map Prod.fst).length=m):=⟨hm,e1,e2⟩
    have HQA:=Hid.i q6
    have HG6:=Hid.i hG6
    rw[hbad] at x2
    clear hpl hF6 hZ6 q6 hG6 hpr hm e1 e2 hbad HFO HQ5 HG5
    go_upto_region 8 with fail
    have bV0:=(Below.refl w6.heap.size w6).drew
    refine wp_region_noPanic ?_
    refine wp_region_held_drew (S:=(fun V:World=>V.cell? ⟨w3.heap.size,3,none⟩=some (.slice pa m pc)∧V.cell? ⟨w3.heap.size,4,none⟩=some (.slice na m nc))) (by kernel_rfl) (⟨x3,x4⟩) (fun hHeld=>?_)
    clear hHeld
    generalize w6.drew=V at bV0 ⊢
    have hVs:=bV0.size
    have hkV:=(bV0.block _ lP6).trans HQA.out.box
    have HKV:Hid (V.heap[w3.heap.size]?=some (.cells #[.int .i64 tx,.slice fa6 fn6 fc6,.bool pr.2.bad,.slice pa m pc,.slice na m nc] 68)):=hkV
    have HRV:Hid (V.heap[N+1]?=some (.cells #[.slice none 0 0,.slice none 0 0,.slice none 0 0] 32)):=(bV0.block _ l6).trans HR6.out
    have HBV:Hid (Below N w V):=HBN6.out.trans (bV0.mono (by omega))
    have HVB:Hid (Below w6.heap.size w6 V):=bV0
    have htl:=told_any V HPR.out.2.1 (GM.see _ _ _ (GM.keep pr.1 (fun b=>W.heap.size<=b∧b<w2'.heap.size) (fun b=>W.heap.size<=b∧b<w2'.heap.size) _ (fun b hb=>bV0.block b (by omega)) (fun _ e=>e) HG6.out)) (fun b hb=>by omega) (by have:=HPR.out.2.2;omega)
    have hHeld:V.cell? ⟨w3.heap.size,3,none⟩=some (.slice pa m pc)∧V.cell? ⟨w3.heap.size,4,none⟩=some (.slice na m nc):=⟨(box5P hkV).2.2.2.1,(box5P hkV).2.2.2.2⟩
    clear bV0 hkV x0 x1 x2 x3 x4 ra rb rc f6
    refine tY 0 (.iface ty vv) .z (by kernel_rfl) (by rfl) ?_ ‹_› ?_
    ·intro wq hSw;go_simp
    refine tY 2 (.pointer (some ⟨w3.heap.size,0,none⟩)) (.s (.s .z)) (by kernel_rfl) (by rfl) ?_ ‹_› ?_
    ·intro wq hSw;go_simp
    refine tY 3 (.pointer (some ⟨w3.heap.size,0,none⟩)) (.s (.s (.s .z))) (by kernel_rfl) (by rfl) ?_ ‹_› ?_
    ·intro wq hSw;go_simp
    refine tY 4 (.pointer (some ⟨w3.heap.size,3,none⟩)) (.s (.s (.s (.s .z)))) (by kernel_rfl) (by rfl) ?_ ‹_› ?_
    ·intro wq hSw;go_simp
    try simp only[Act.put,q1,q2,q3]
    refine tY 5 (.slice pa m pc) (.f .z) (by kernel_rfl) (by rfl) ?_ ‹_› ?_
    ·intro wq hSw;go_simp
    refine tY 6 (.pointer (some ⟨w3.heap.size,0,none⟩)) (.f (.s .z)) (by kernel_rfl) (by rfl) ?_ ‹_› ?_
    ·intro wq hSw;go_simp
    refine tY 7 (.pointer (some ⟨w3.heap.size,0,none⟩)) (.f (.s (.s .z))) (by kernel_rfl) (by rfl) ?_ ‹_› ?_
    ·intro wq hSw;go_simp
    refine tY 8 (.pointer (some ⟨w3.heap.size,4,none⟩)) (.f (.s (.s (.s .z)))) (by kernel_rfl) (by rfl) ?_ ‹_› ?_
    ·intro wq hSw;go_simp
    try simp only[Act.put,q1,q2,q3]
    refine tY 9 (.slice na m nc) (.f (.s (.s (.s (.s .z))))) (by kernel_rfl) (by rfl) ?_ ‹_› ?_
    ·intro wq hSw;go_simp
    try simp only[Act.put,q1,q2,q3]
    refine wpAnyH_ready (rs:=[1]) (by kernel_rfl) (by simp) ?_
    refine rdA (.s .z) (fun K hK=>?_) AllReadyH.nil
    go_simp
    refine htl.mono ?_
    rintro e w7 ⟨oa,oc,us,rfl,hO7,hb7⟩
    have hk7:=(hb7.block _ (by omega)).trans HKV.out
    have hr7:=(hb7.block (N+1) (by omega)).trans HRV.out
    obtain⟨ra,rb,rc⟩:=box3P hr7
    have f7:=thawT hr7
    have hs7:=hb7.size
    have l7:N+1<w7.heap.size:=by omega
    have HO7:=Hid.i hO7
    have HB7:=Hid.i hb7
    have HR7:=Hid.i hr7
    obtain⟨nn,hnn2⟩:∃ nn,pr.1.nodes=nn:=⟨_,rfl⟩
    have HNN:Hid (pr.1.nodes=nn):=hnn2
    rw[hnn2] at HO7 ⊢
    clear htl hO7 hb7 hr7 hnn2
    go_wp2_with fail
    refine hK.out _ _ (⟨(box5P hk7).2.2.2.1,(box5P hk7).2.2.2.2⟩) (fun hHeld=>?_)
    clear hK K
    refine tY 10 (.agg #[.slice oa nn oc,.slice pa m pc,.slice na m nc]) (.t .z) (by kernel_rfl) (by rfl) ?_ ‹_› ?_
    ·intro wq hSw;go_simp
    try simp only[Act.put,q1,q2,q3]
    refine wpAnyH_ready (rs:=[11]) (by kernel_rfl) (by simp) ?_
    refine rdA (.t (.s .z)) (fun K hK=>?_) AllReadyH.nil
    go_simp
    have hbX:=put3P_box HR7.out (.slice oa nn oc) (.slice pa m pc) (.slice na m nc)
    have hFX:=put3P_fr w7 (N+1) (.slice oa nn oc) (.slice pa m pc) (.slice na m nc)
    have hkX:(put3P w7 (N+1) (.slice oa nn oc) (.slice pa m pc) (.slice na m nc)).heap[w3.heap.size]?=_:=(hFX.block _ (by omega) (by omega)).trans hk7
    refine hK.out _ _ (⟨(box5P hkX).2.2.2.1,(box5P hkX).2.2.2.2⟩) (fun hHeld=>?_)
    clear hK K
    try simp only[Act.put,q1,q2,q3]
    refine wpAnyH_done (by kernel_rfl) ?_ _
    refine NoPanic.normal ?_
    clear hHeld hkX hk7 ra rb rc f7
    change Exit.then _ _ Exit.normal _ (put3P w7 (N+1) (.slice oa nn oc) (.slice pa m pc) (.slice na m nc))
    generalize put3P w7 (N+1) (.slice oa nn oc) (.slice pa m pc) (.slice na m nc)=X at hbX hFX ⊢
    obtain⟨y0,y1,y2⟩:=box3P hbX
    have HFX:=Hid.i hFX
    clear hbX hFX
    go_wp2_with fail
    refine bodyPost_ret (v:=.agg #[.slice oa nn oc,.slice pa m pc,.slice na m nc]) (by simp[results,Tryz.results8,go_sem,y0,y1,y2]) rfl ?_
    have hsX:=HFX.out.size
    have hBX:Below N w X:=HBV.out.trans ((HB7.out.mono (by omega)).trans (HFX.out.below (by omega) (fun g e=>by omega)))
    have hQX:=HQA.out.keep (w':=X) (by omega) (fun g hg=>by have h1:=HZ6.out g hg;exact (HFX.out.block g (by omega) (by omega)).trans ((HB7.out.block g (by omega)).trans (HVB.out.block g (by omega))))
    have hOX:=HO7.out.fr HFX.out (fun g hg e=>by have h1:=(HO7.out.blk hg).1;omega)
    have hfl:(pr.1.flat 0).length=nn:=by rw[T.flat_len _ HPR.out.2.1,HNN.out]
    rw[hN]
    refine⟨⟨V.heap.size,oa,oc,pa,pc,na,nc,us,css,by omega,by omega,?_,?_,?_,?_,fun g e=>?_⟩,hBX⟩
    ·rw[HPQ.out,hfl,HML.out.1]
    ·rw[HPQ.out,hfl];exact hOX
    ·rw[HPQ.out,HML.out.1]
     refine⟨own_raise hQX.prow (fun g e=>by have:=HZ6.out g (hQX.pblk g e);omega),fun g e=>by have:=HZ6.out g (hQX.pblk g e);omega,hQX.cl,fun i cs hi=>?_,hQX.ap⟩
     obtain⟨c,e,q⟩:=hQX.pgs i cs hi
     exact⟨c,e,q.less (fun g h1 _ h2=>h1 (by have:=HZ6.out g h2;omega))⟩
    ·rw[HPQ.out,HML.out.1]
     have:=hQX.nrow
     rw[HML.out.2.2] at this
     exact own_raise this (fun g e=>by have:=HZ6.out g (hQX.nblk g e);omega)
    ·rw[HPQ.out,HML.out.1] at e
     have:=HZ6.out g (hQX.nblk g e)
     omega
   ·have HPQ:Hid (plQ ts tx tk=([],[])):=plQ_bad HTOP.out.1 (by rw[HPR.out.1];exact hbad)
    have hbX:=put3P_box HR6.out (.slice none 0 0) (.slice none 0 0) (.slice none 0 0)
    have hFX:=put3P_fr w6 (N+1) (.slice none 0 0) (.slice none 0 0) (.slice none 0 0)
    rw[hbad] at x2
    clear hpl hF6 hZ6 q6 hG6 hpr hbad
    go_wp2_with fail
    change bodyPost _ _ _ _ _ (put3P w6 (N+1) (.slice none 0 0) (.slice none 0 0) (.slice none 0 0))
    generalize put3P w6 (N+1) (.slice none 0 0) (.slice none 0 0) (.slice none 0 0)=X at hbX hFX ⊢
    obtain⟨y0,y1,y2⟩:=box3P hbX
    refine bodyPost_ret (v:=.agg #[.slice none 0 0,.slice none 0 0,.slice none 0 0]) (by simp[results,Tryz.results8,go_sem,y0,y1,y2]) rfl ?_
    have hBX:Below N w X:=HBN6.out.trans (hFX.below (by omega) (fun g e=>by omega))
    rw[hN]
    exact⟨plOwn_nil HPQ.out (by have:=hBX.size;omega),hBX⟩
  ·have hsm:=isStamp_anyI tx w2
   rw[decide_eq_false hst] at hsm
   have HPQ:Hid (plQ ts tx tk=([],[])):=plQ_tx hst
   have hbX:=put3P_box HR2.out (.slice none 0 0) (.slice none 0 0) (.slice none 0 0)
   have hFX:=put3P_fr w2 (N+1) (.slice none 0 0) (.slice none 0 0) (.slice none 0 0)
   clear hst hfl hb2N
   go_wp2_with fail
   refine hsm.mono ?_
   rintro e w2' ⟨rfl,rfl⟩
   go_wp2_with fail
   change bodyPost _ _ _ _ _ (put3P w2' (N+1) (.slice none 0 0) (.slice none 0 0) (.slice none 0 0))
   generalize put3P w2' (N+1) (.slice none 0 0) (.slice none 0 0) (.slice none 0 0)=X at hbX hFX ⊢
   obtain⟨y0,y1,y2⟩:=box3P hbX
   refine bodyPost_ret (v:=.agg #[.slice none 0 0,.slice none 0 0,.slice none 0 0]) (by simp[results,Tryz.results8,go_sem,y0,y1,y2]) rfl ?_
   have hBX:Below N w X:=HB2.out.trans (hFX.below (by omega) (fun g e=>by omega))
   rw[hN]
   exact⟨plOwn_nil HPQ.out (by have:=hBX.size;omega),hBX⟩
 ·have HPQ:Hid (plQ ts tx tk=([],[])):=plQ_no (topT_no hok)
  have hbX:=put3P_box HR2.out (.slice none 0 0) (.slice none 0 0) (.slice none 0 0)
  have hFX:=put3P_fr w2 (N+1) (.slice none 0 0) (.slice none 0 0) (.slice none 0 0)
  rw[hno hok]
  clear hno hyes hok hb2N
  go_wp2_with fail
  change bodyPost _ _ _ _ _ (put3P w2 (N+1) (.slice none 0 0) (.slice none 0 0) (.slice none 0 0))
  generalize put3P w2 (N+1) (.slice none 0 0) (.slice none 0 0) (.slice none 0 0)=X at hbX hFX ⊢
  obtain⟨y0,y1,y2⟩:=box3P hbX
  refine bodyPost_ret (v:=.agg #[.slice none 0 0,.slice none 0 0,.slice none 0 0]) (by simp[results,Tryz.results8,go_sem,y0,y1,y2]) rfl ?_
  have hBX:Below N w X:=HB2.out.trans (hFX.below (by omega) (fun g e=>by omega))
  rw[hN]
  exact⟨plOwn_nil HPQ.out (by have:=hBX.size;omega),hBX⟩
end Go.Proofs.YtkhglgalbifcnaaGreat
