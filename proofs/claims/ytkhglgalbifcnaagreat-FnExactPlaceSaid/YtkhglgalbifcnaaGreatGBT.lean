import Derived.Test.YtkhglgalbifcnaaGreatGAA
import Derived.Test.YtkhglgalbifcnaaGreatGAB
import Derived.Test.YtkhglgalbifcnaaGreatGBS
import Derived.Deep.RegionWith
namespace Go.Proofs.YtkhglgalbifcnaaGreat
open Go.RowKit
set_option linter.unusedVariables false
set_option linter.unusedSimpArgs false
set_option maxRecDepth 100000
structure SPl (V:World) (Z:Nat) (tx:Int) (oa:Option Addr) (m oc:Nat) (rl:List TN) (pa:Option Addr) (q pc:Nat) (pl:List PgC) (na:Option Addr) (nc:Nat) (nl:List Int):Prop where
 nodes:NodesAt V 0 Z oa m oc rl
 pgs:PgsAt V 0 Z tx pa q pc pl
 nums:RowsAt V 0 Z 1 intCells (fun _=>True) 0 na q nc nl
theorem SPl.keep {V V':World} {Z:Nat} {tx:Int} {oa:Option Addr} {m oc:Nat} {rl:List TN} {pa:Option Addr} {q pc:Nat} {pl:List PgC} {na:Option Addr} {nc:Nat} {nl:List Int} (h:SPl V Z tx oa m oc rl pa q pc pl na nc nl) (hk:∀ b,b<Z->V'.heap[b]?=V.heap[b]?):SPl V' Z tx oa m oc rl pa q pc pl na nc nl :=
 ⟨h.nodes.keep (fun b _ hb=>hk b hb),h.pgs.keep (fun b _ hb=>hk b hb),h.nums.keep (fun b _ hb=>hk b hb)⟩
theorem SPl.below {V V':World} {Z B:Nat} {tx:Int} {oa:Option Addr} {m oc:Nat} {rl:List TN} {pa:Option Addr} {q pc:Nat} {pl:List PgC} {na:Option Addr} {nc:Nat} {nl:List Int} (h:SPl V Z tx oa m oc rl pa q pc pl na nc nl) (hb:Below B V V') (hZ:Z<=B):SPl V' Z tx oa m oc rl pa q pc pl na nc nl:=h.keep (fun b hlt=>hb.block b (by omega))
structure IPl (V:World) (lo M Y:Nat) (tx:Int) (ia:Option Addr) (m ic:Nat) (rl:List TN) (us:Nat->Nat->Value) (ja:Option Addr) (q jc:Nat) (pl:List PgC) (css:List (List Value)) (ka:Option Addr) (kc:Nat) (nl:List Int):Prop where
 own:OwnT V M (.slice ia m ic) (rl.map TN.nd) us
 pgs:PgsO V lo M tx (.slice ja q jc) pl css
 nums:V.ownsRow lo 2 1 (.slice ka q kc) q (rowsOf intCells nl)
 nb:∀ g,(Value.slice ka q kc).ownBlock=some g->g<M
 lm:lo<=M
 my:M<=Y
 yv:Y<=V.heap.size
 ob:∀ g,BlkT (.slice ia m ic) (rl.map TN.nd).length us g->g<Y
theorem IPl.fr {S:Nat->Prop} {V V':World} {lo M Y:Nat} {tx:Int} {ia:Option Addr} {m ic:Nat} {rl:List TN} {us:Nat->Nat->Value} {ja:Option Addr} {q jc:Nat} {pl:List PgC} {css:List (List Value)} {ka:Option Addr} {kc:Nat} {nl:List Int} (h:IPl V lo M Y tx ia m ic rl us ja q jc pl css ka kc nl) (hf:Fr S V V') (hS:∀ g,S g->g<lo∨Y<=g):IPl V' lo M Y tx ia m ic rl us ja q jc pl css ka kc nl:=by
 have h1:=h.lm
 have h2:=h.my
 have h3:=h.yv
 have h4:=hf.size
 exact⟨h.own.fr hf (fun g e e2=>by have a1:=h.ob g e;have a2:=(h.own.blk e).1;have a3:=hS g e2;omega),h.pgs.fr hf (by omega) (fun g e=>by have:=hS g e;omega),owns_fr h.nums hf (fun g e e2=>by have a1:=h.nb g e;have a2:=(h.nums.lt g e).1;have a3:=hS g e2;omega),h.nb,h.lm,h.my,by omega,h.ob⟩
theorem IPl.below {V V':World} {lo M Y B:Nat} {tx:Int} {ia:Option Addr} {m ic:Nat} {rl:List TN} {us:Nat->Nat->Value} {ja:Option Addr} {q jc:Nat} {pl:List PgC} {css:List (List Value)} {ka:Option Addr} {kc:Nat} {nl:List Int} (h:IPl V lo M Y tx ia m ic rl us ja q jc pl css ka kc nl) (hb:Below V.heap.size V V'):IPl V' lo M Y tx ia m ic rl us ja q jc pl css ka kc nl:=h.fr (S:=fun _=>False) (Fr.of_below hb) (fun _ e=>e.elim)
theorem IPl.eq {V:World} {lo M Y Z:Nat} {tx:Int} {ia:Option Addr} {m ic:Nat} {rl:List TN} {us:Nat->Nat->Value} {ja:Option Addr} {q jc:Nat} {pl:List PgC} {css:List (List Value)} {ka:Option Addr} {kc:Nat} {nl:List Int} {oa:Option Addr} {oc:Nat} {pa:Option Addr} {pc:Nat} {na:Option Addr} {nc:Nat} (h:IPl V lo M Y tx ia m ic rl us ja q jc pl css ka kc nl) (k:SPl V Z tx oa m oc rl pa q pc pl na nc nl) (hZ:Z<=V.heap.size) :
  Calls Tryz.prog 9 #[.agg #[.slice ia m ic,.slice ja q jc,.slice ka q kc],.agg #[.slice oa m oc,.slice pa q pc,.slice na q nc]] V fun e w'=>e=.returned (.bool true)∧Below V.heap.size V w':=by
 have h1:=h.own.nodesI k.nodes.1.symm k.nodes
 have h2:=h.pgs.read k.pgs.1
 obtain⟨_,_,e,h3⟩:=RowsAt.of_owns (fit:=fun _=>True) (d:=(0:Int)) ic1 h.nums k.nums.1 (fun _ _=>trivial)
 simp only[Value.slice.injEq,true_and] at e
 obtain⟨rfl,rfl⟩:=e
 exact eqPlaced_same tx ia m ic ja q jc ka q kc oa oc pa pc na nc rl pl nl V M V.heap.size 0 Z lo V.heap.size 0 Z (Nat.le_refl _) hZ (Nat.le_refl _) hZ h1 k.nodes h2 k.pgs h3 k.nums
theorem box3K {w:World} {N:Nat} {v0 v1 v2:Value} {t:TypeId} (h:w.heap[N]?=some (.cells #[v0,v1,v2] t)):w.cell? ⟨N,0,none⟩=some v0∧w.cell? ⟨N,1,none⟩=some v1∧w.cell? ⟨N,2,none⟩=some v2:=box3P h
set_option maxHeartbeats 8000000 in
theorem law_Place (a:Option Addr) (n c:Nat) (ts:List TN) (tx:Int) (ta:Option Addr) (tn tc:Nat) (tk:List Int) (w:World) (hT:NodesAt w 0 w.heap.size a n c ts) (hK:IntsAt w 0 w.heap.size ta tn tc tk) :
  Calls Tryz.prog 3 #[.agg #[.slice a n c],.int .i64 tx,.slice ta tn tc] w fun e w'=>e=.returned (.bool true)∧Below w.heap.size w w':=by
 have hb0:Below w.heap.size w (w.alloc (.cells #[.slice a n c] 24)):=(Below.refl _ _).alloc (Nat.le_refl _) _
 obtain⟨N,hN⟩:∃ N,w.heap.size=N:=⟨_,rfl⟩
 have A0:=heap_alloc_new w (.cells #[.slice a n c] 24)
 have z0:(w.alloc (.cells #[.slice a n c] 24)).heap.size=N+1:=by simp[hN]
 rw[hN] at hb0 A0 hT hK ⊢
 have HT:Hid (∀ V,Below N w V->NodesAt V 0 N a n c ts):=fun V h=>hT.below h
 have HKK:Hid (∀ V,Below N w V->IntsAt V 0 N ta tn tc tk):=fun V h=>hK.below h
 have HL:Hid (ts.length=n):=hT.1
 have HI:Hid (∀ (V:World) (lo0:Nat) (g:Nat),V.ownsRow lo0 2 1 (.slice (some ⟨g,0,none⟩) tn tn) tn (rowsOf intCells tk)->IntsAt V lo0 V.heap.size (some ⟨g,0,none⟩) tn tn tk):=fun V lo0 g h=>by
  obtain⟨_,_,e,h3⟩:=RowsAt.of_owns (fit:=I64) (d:=(0:Int)) ic1 h hK.1 hK.2.2.2.1
  simp only[Value.slice.injEq,true_and] at e
  obtain⟨rfl,rfl⟩:=e
  exact h3
 have htc:=hK.2.1
 have htc2:=hK.2.2.1
 unfold maxLen at htc2
 clear hT hK
 go_enter Tryz.func3,Tryz.ntmps3
 go_upto_region 1 with fail
 generalize w.alloc (.cells #[.slice a n c] 24)=W0 at hb0 A0 z0 ⊢
 have x00:=cell_one_at A0
 have l0:N<W0.heap.size:=by omega
 by_cases t1:1048576<tn
 ·go_wp2_with fail
  go_ret
  exact⟨rfl,hb0⟩
 have htn:tn<=1048576:=by omega
 have hsz:=szTree_any a n c ts 1048576 W0 (by omega) (by omega) 0 N (by omega) (HT.out W0 hb0)
 go_wp2_with fail
 refine hsz.mono ?_
 rintro e w1 ⟨r,rfl,hr,hb1⟩
 have g1:=hb0.trans (hb1.mono (by omega))
 have s1:=hb1.size
 have A1:=(hb1.block N l0).trans A0
 have x10:=cell_one_at A1
 have l1:N<w1.heap.size:=by omega
 clear hsz x00 hb1 A0
 by_cases t3:r<0
 ·go_wp2_with fail
  go_ret
  exact⟨rfl,g1⟩
 have hw:=hr.2.2 (by omega)
 obtain⟨hn,hall⟩:=smallT_ofPI HL.out (by omega)
 have hml:=mLens_le ts
 have HM1:Hid (1+mLens ts<=100000000):=by show _<=_;omega
 have HA:Hid (SmallT ts):=hall
 have HPB:=Hid.i (plQ_bound ts tx tk)
 clear hw hr hall hml
 obtain⟨rl,hrl⟩:∃ rl,(plQ ts tx tk).1=rl:=⟨_,rfl⟩
 obtain⟨lg,hlg⟩:∃ lg,(plQ ts tx tk).2=lg:=⟨_,rfl⟩
 obtain⟨m,hm⟩:∃ m,rl.length=m:=⟨_,rfl⟩
 obtain⟨q,hq⟩:∃ q,lg.length=q:=⟨_,rfl⟩
 obtain⟨pl,hpl⟩:∃ pl,lg.map Prod.snd=pl:=⟨_,rfl⟩
 obtain⟨nl,hnl⟩:∃ nl,lg.map Prod.fst=nl:=⟨_,rfl⟩
 rw[hrl,hlg,hq,hpl] at HPB
 have HML:Hid (rl.length=m∧pl.length=q):=⟨hm,by rw[<-hpl,List.length_map,hq]⟩
 have HSP:Hid (∀ (ga tg:Nat) (V:World) (A B A2 B2:Nat),B<=V.heap.size->B2<=V.heap.size->NodesAt V A B (some ⟨ga,0,none⟩) n n ts->IntsAt V A2 B2 (some ⟨tg,0,none⟩) tn tn tk->Calls Tryz.prog 5 #[.agg #[.slice (some ⟨ga,0,none⟩) n n],.int .i64 tx,.slice (some ⟨tg,0,none⟩) tn tn] V fun e w'=>∃ oa oc pa pc na nc,e=.returned (.agg #[.slice oa m oc,.slice pa q pc,.slice na q nc])∧SPl w' w'.heap.size tx oa m oc rl pa q pc pl na nc nl∧Below V.heap.size V w'):=fun ga tg V A B A2 B2 hB hB2 h h2=>by
  refine (specPlaceX_any ts _ n n A B V hB h tx tk _ tn tn A2 B2 hB2 h2 htn).mono ?_
  rintro e w' ⟨⟨oa,oc,pa,pc,na,nc,e1,e2,e3,e4⟩,hb⟩
  rw[hrl,hlg,hm,hq] at e1
  rw[hrl,hm] at e2
  rw[hlg,hq,hpl] at e3
  rw[hlg,hq,hnl] at e4
  exact⟨oa,oc,pa,pc,na,nc,e1,⟨e2.up (Nat.zero_le _) (Nat.le_refl _),e3,e4⟩,hb⟩
 have HIP:Hid (∀ (ga tg:Nat) (V:World) (A B A2 B2:Nat),B<=V.heap.size->B2<=V.heap.size->NodesAt V A B (some ⟨ga,0,none⟩) n n ts->IntsAt V A2 B2 (some ⟨tg,0,none⟩) tn tn tk->Calls Tryz.prog 8 #[.agg #[.slice (some ⟨ga,0,none⟩) n n],.int .i64 tx,.slice (some ⟨tg,0,none⟩) tn tn] V fun e w'=>∃ M ia ic ja jc ka kc us css,e=.returned (.agg #[.slice ia m ic,.slice ja q jc,.slice ka q kc])∧IPl w' V.heap.size M w'.heap.size tx ia m ic rl us ja q jc pl css ka kc nl∧Below V.heap.size V w'):=fun ga tg V A B A2 B2 hB hB2 h h2=>by
  refine (implPlace_any ts _ n n A B V hB h tx tk _ tn tn A2 B2 hB2 h2 htn).mono ?_
  rintro e w' ⟨⟨M,oa,oc,pa,pc,na,nc,us,css,e0,e00,e1,e2,e3,e4,e5⟩,hb⟩
  rw[hrl,hlg,hm,hq] at e1
  rw[hrl,hm] at e2
  rw[hlg,hq,hpl] at e3
  rw[hlg,hq,hnl] at e4
  rw[hlg,hq] at e5
  exact⟨M,oa,oc,pa,pc,na,nc,us,css,e1,⟨e2,e3,e4,e5,e0,e00,Nat.le_refl _,fun g e=>(e2.blk e).2⟩,hb⟩
 clear hrl hlg hm hq hpl hnl
 have hc:=toTree_any a n c ts w1 0 N (by omega) (HT.out w1 g1) hn HA.out
 go_wp2_with fail
 refine hc.mono ?_
 rintro e w2 ⟨ga,rfl,hT2,hb2⟩
 have g2:=g1.trans (hb2.mono (by omega))
 have s2:=hb2.size
 have A2:=(hb2.block N l1).trans A1
 clear hc x10
 have hc:=toInt64S_any ta tn tc tk w2 0 N (by omega) (HKK.out w2 g2) htn
 go_wp2_with fail
 refine hc.mono ?_
 rintro e w3 ⟨tg,htg,rfl,hI3,hb3⟩
 have g3:=g2.trans (hb3.mono (by omega))
 have s3:=hb3.size
 have A3:=(hb3.block N (by omega)).trans A2
 have HT3:=Hid.i (hT2.below hb3)
 have HI3:=Hid.i (HI.out w3 _ tg hI3)
 clear hc hT2 hI3 A1 A2
 have hc:=HSP.out ga tg w3 _ _ _ _ s3 (Nat.le_refl _) HT3.out HI3.out
 clear HSP HT3 HI3
 go_wp2_with fail
 refine hc.mono ?_
 rintro e w4 ⟨oa,oc,pa,pc,na,nc,rfl,hS4,hb4⟩
 have g4:=g3.trans (hb4.mono (by omega))
 have s4:=hb4.size
 have A4:=(hb4.block N (by omega)).trans A3
 clear hc hb2 hb3 hb4 A3
 obtain⟨Z,hZ⟩:∃ Z,w4.heap.size=Z:=⟨_,rfl⟩
 have b5:Below w4.heap.size w4 (w4.alloc (.cells #[.slice oa m oc,.slice pa q pc,.slice na q nc] 32)):=(Below.refl _ _).alloc (Nat.le_refl _) _
 have Z5:=heap_alloc_new w4 (.cells #[.slice oa m oc,.slice pa q pc,.slice na q nc] 32)
 have z5:(w4.alloc (.cells #[.slice oa m oc,.slice pa q pc,.slice na q nc] 32)).heap.size=Z+1:=by rw[<-hZ];simp
 go_upto_region 8 with fail
 generalize w4.alloc (.cells #[.slice oa m oc,.slice pa q pc,.slice na q nc] 32)=W5 at b5 Z5 z5 ⊢
 rw[hZ] at b5 Z5 hS4
 have HS5:=Hid.i (hS4.below b5 (Nat.le_refl _))
 have g5:=g4.trans (b5.mono (by omega))
 have A5:=(b5.block N (by omega)).trans A4
 clear b5 A4 hS4
 have x50:=cell_one_at A5
 have l5:N<W5.heap.size:=by omega
 have hc:=toTree_mark a n c ts W5 0 N (by omega) (HT.out W5 g5) hn HA.out
 go_wp2_with fail
 refine hc.mono ?_
 rintro e w6 ⟨gx,rfl,hT6,hb6,mk6⟩
 have s6:=hb6.size
 have A6:=(hb6.block N l5).trans A5
 have Z6:=(hb6.block Z (by omega)).trans Z5
 have HS6:=Hid.i (HS5.out.below hb6 (by omega))
 have g6:=g5.trans (hb6.mono (by omega))
 have MU6:=mk6.u
 clear hc x50 A5 Z5 HS5 hb6 mk6
 obtain⟨X,hX⟩:∃ X,w6.heap.size=X:=⟨_,rfl⟩
 have b7:Below w6.heap.size w6 (w6.alloc (.cells #[.slice (some ⟨gx,0,none⟩) n n] 29)):=(Below.refl _ _).alloc (Nat.le_refl _) _
 have X7:=heap_alloc_new w6 (.cells #[.slice (some ⟨gx,0,none⟩) n n] 29)
 have z7:(w6.alloc (.cells #[.slice (some ⟨gx,0,none⟩) n n] 29)).heap.size=X+1:=by rw[<-hX];simp
 have MU7:=MU6.below b7 (Nat.le_refl _)
 have XT7:=hT6.below b7
 go_upto_region 9 with fail
 generalize w6.alloc (.cells #[.slice (some ⟨gx,0,none⟩) n n] 29)=W7 at b7 X7 z7 MU7 XT7 ⊢
 have A7:=(b7.block N (by omega)).trans A6
 have Z7:=(b7.block Z (by omega)).trans Z6
 have HS7:=Hid.i (HS6.out.below b7 (by omega))
 have g7:=g6.trans (b7.mono (by omega))
 rw[hX] at X7 MU7 XT7
 have hX1:W5.heap.size<=X:=by omega
 clear MU6 hT6 A6 Z6 HS6 b7
 have hc:=toInt64S_any ta tn tc tk W7 0 N (by omega) (HKK.out W7 g7) htn
 go_wp2_with fail
 refine hc.mono ?_
 rintro e w8 ⟨gy,hgy,rfl,hI8,hb8⟩
 have s8:=hb8.size
 have A8:=(hb8.block N (by omega)).trans A7
 have Z8:=(hb8.block Z (by omega)).trans Z7
 have X8:=(hb8.block X (by omega)).trans X7
 have HS8:=Hid.i (HS7.out.below hb8 (by omega))
 have MU8:Hid (MarkU w8 W5.heap.size X gx n ts):=MU7.below hb8 (by omega)
 have XT8:Hid (NodesAt w8 W5.heap.size X (some ⟨gx,0,none⟩) n n ts):=XT7.below (hb8.mono (by omega))
 have RY8:Hid (w8.ownsRow W7.heap.size 2 1 (.slice (some ⟨gy,0,none⟩) tn tn) tn (rowsOf intCells tk)):=hI8
 have g8:=g7.trans (hb8.mono (by omega))
 have hgy8:gy<w8.heap.size:=(hI8.lt gy rfl).2
 obtain⟨lo,hlo⟩:∃ lo,w8.heap.size=lo:=⟨_,rfl⟩
 clear hc A7 Z7 X7 HS7 MU7 XT7 hI8 hb8
 have x80:=cell_one_at X8
 have l8:X<w8.heap.size:=by omega
 have hc:=HIP.out gx gy w8 _ _ _ _ (by omega) (Nat.le_refl _) XT8.out (HI.out w8 _ gy RY8.out)
 go_wp2_with fail
 refine hc.mono ?_
 rintro e w9 ⟨M,ia,ic,ja,jc,ka,kc,us,css,rfl,hI9,hb9⟩
 have s9:=hb9.size
 have A9:=(hb9.block N (by omega)).trans A8
 have Z9:=(hb9.block Z (by omega)).trans Z8
 have X9:=(hb9.block X l8).trans X8
 have HS9:=Hid.i (HS8.out.below hb9 (by omega))
 have MU9:Hid (MarkU w9 W5.heap.size X gx n ts):=MU8.out.below hb9 (by omega)
 have XT9:Hid (NodesAt w9 W5.heap.size X (some ⟨gx,0,none⟩) n n ts):=XT8.out.below (hb9.mono (by omega))
 have RY9:=Hid.i (owns_below RY8.out hb9)
 have g9:=g8.trans (hb9.mono (by omega))
 rw[hlo] at hI9
 obtain⟨Y,hY⟩:∃ Y,w9.heap.size=Y:=⟨_,rfl⟩
 rw[hY] at hI9
 clear hc x80 A8 Z8 X8 HS8 MU8 XT8 RY8 hb9
 have b10:Below w9.heap.size w9 (w9.alloc (.cells #[.slice ia m ic,.slice ja q jc,.slice ka q kc] 32)):=(Below.refl _ _).alloc (Nat.le_refl _) _
 have Y10:=heap_alloc_new w9 (.cells #[.slice ia m ic,.slice ja q jc,.slice ka q kc] 32)
 have z10:(w9.alloc (.cells #[.slice ia m ic,.slice ja q jc,.slice ka q kc] 32)).heap.size=Y+1:=by rw[<-hY];simp
 have hI10:=hI9.below (B:=0) b10
 go_upto_region 11 with fail
 generalize w9.alloc (.cells #[.slice ia m ic,.slice ja q jc,.slice ka q kc] 32)=WA at b10 Y10 z10 hI10 ⊢
 have AA:=(b10.block N (by omega)).trans A9
 have ZA:=(b10.block Z (by omega)).trans Z9
 have XA:=(b10.block X (by omega)).trans X9
 have HSA:=Hid.i (HS9.out.below b10 (by omega))
 have MUA:Hid (MarkU WA W5.heap.size X gx n ts):=MU9.out.below b10 (by omega)
 have XTA:Hid (NodesAt WA W5.heap.size X (some ⟨gx,0,none⟩) n n ts):=XT9.out.below (b10.mono (by omega))
 have RYA:=Hid.i (owns_below RY9.out b10)
 have gA:=g9.trans (b10.mono (by omega))
 have HIA:=Hid.i hI10
 rw[hY] at Y10
 have YA:=Y10
 clear A9 Z9 X9 HS9 MU9 XT9 RY9 hI9 hI10 Y10 b10
 obtain⟨p0,p1,p2⟩:=box3K ZA
 obtain⟨p3,p4,p5⟩:=box3K YA
 have lZA:Z<WA.heap.size:=by omega
 have lYA:Y<WA.heap.size:=by omega
 have hc:=HIA.out.eq HSA.out (by omega)
 go_wp2_with fail
 refine hc.mono ?_
 rintro e wb ⟨rfl,bb⟩
 have sb:=bb.size
 have AB:=(bb.block N (by omega)).trans AA
 have ZB:=(bb.block Z (by omega)).trans ZA
 have XB:=(bb.block X (by omega)).trans XA
 have YB:=(bb.block Y (by omega)).trans YA
 have HSB:=Hid.i (HSA.out.below bb (by omega))
 have MUB:Hid (MarkU wb W5.heap.size X gx n ts):=MUA.out.below bb (by omega)
 have XTB:Hid (NodesAt wb W5.heap.size X (some ⟨gx,0,none⟩) n n ts):=XTA.out.below (bb.mono (by omega))
 have RYB:=Hid.i (owns_below RYA.out bb)
 have HIB:=Hid.i (HIA.out.below (B:=0) bb)
 have gB:=gA.trans (bb.mono (by omega))
 clear hc p0 p1 p2 p3 p4 p5 AA ZA XA YA HSA MUA XTA RYA HIA bb
 have hTd:Hid (NodesAt wb.drew 0 N a n c ts):=HT.out wb.drew gB.drew
 have XTd:Hid (NodesAt wb.drew W5.heap.size X (some ⟨gx,0,none⟩) n n ts):=XTB.out.below (Below.refl _ _).drew
 go_upto_region 13 with fail
 have lNB:N<wb.heap.size:=by omega
 have lXB:X<wb.heap.size:=by omega
 refine wp_region_noPanic ?_
 refine wp_region_held_drew (S:=(fun w':World=>w'.heap[N]?=some (.cells #[.slice a n c] 24)∧w'.heap[X]?=some (.cells #[.slice (some ⟨gx,0,none⟩) n n] 29))) (by kernel_rfl) (⟨AB,XB⟩) (fun hHeld=>?_)
 refine tY 0 (.agg #[.slice (some ⟨gx,0,none⟩) n n]) .z (by kernel_rfl) (by rfl) ?_ ‹_› ?_
 ·intro wq hSw;(try dsimp only at hSw);have y0:=cell_one_at hSw.2;go_simp
 refine tY 1 (.agg #[.slice a n c]) (.s .z) (by kernel_rfl) (by rfl) ?_ ‹_› ?_
 ·intro wq hSw;(try dsimp only at hSw);have y0:=cell_one_at hSw.1;go_simp
 try simp only[Act.put,q1,q2,q3]
 have hc:=toTree_any a n c ts wb.drew 0 N (by show N<=wb.heap.size;omega) hTd.out hn HA.out
 refine wpAnyH_ready (rs:=[2]) (by kernel_rfl) (by simp) ?_
 refine rdA (.s (.s .z)) (fun K hK=>?_) AllReadyH.nil
 go_simp
 refine (hc).mono ?_
 rintro e wa ⟨ge,rfl,hT10,hb10⟩
 have bb10:Below wb.heap.size wb wa:=((Below.refl _ wb).drew).trans hb10
 go_wp2_with fail
 refine hK.out _ _ (⟨(bb10.block N lNB).trans AB,(bb10.block X lXB).trans XB⟩) (fun hHeld=>?_)
 clear hK K
 try simp only[Act.put,q1,q2,q3]
 have sa:=bb10.size
 have h9d:wb.drew.heap.size=wb.heap.size:=rfl
 have hc2:=eqTree_same (some ⟨gx,0,none⟩) n n (some ⟨ge,0,none⟩) n ts wa W5.heap.size X wb.drew.heap.size wa.heap.size (by omega) (Nat.le_refl _) (XTd.out.below (hb10.mono (by omega))) hT10
 refine wpAnyH_ready (rs:=[3]) (by kernel_rfl) (by simp) ?_
 refine rdA (.s (.s (.s .z))) (fun K hK=>?_) AllReadyH.nil
 go_simp
 refine (hc2).mono ?_
 rintro e wc ⟨rfl,hbb⟩
 have bbb:Below wb.heap.size wb wc:=bb10.trans (hbb.mono sa)
 go_wp2_with fail
 refine hK.out _ _ (⟨(bbb.block N lNB).trans AB,(bbb.block X lXB).trans XB⟩) (fun hHeld=>?_)
 clear hK K
 refine tY 4 (.bool false) (.s (.s (.s (.s .z)))) (by kernel_rfl) (by rfl) ?_ ‹_› ?_
 ·intro wq hSw;go_simp
 try simp only[Act.put,q1,q2,q3]
 refine wpAnyH_done (by kernel_rfl) ?_ _
 refine NoPanic.normal ?_
 clear hHeld hc hc2 hT10 hb10 bbb h9d sa
 have bbc:Below wb.heap.size wb wc:=(bb10.trans (hbb.mono bb10.size))
 have scc:=bbc.size
 have AC:=(bbc.block N (by omega)).trans AB
 have ZC:=(bbc.block Z (by omega)).trans ZB
 have XC:=(bbc.block X (by omega)).trans XB
 have YC:=(bbc.block Y (by omega)).trans YB
 have HSC:=Hid.i (HSB.out.below bbc (by omega))
 have MUC:Hid (MarkU wc W5.heap.size X gx n ts):=MUB.out.below bbc (by omega)
 have RYC:=Hid.i (owns_below RYB.out bbc)
 have HIC:=Hid.i (HIB.out.below (B:=0) bbc)
 have gC:=gB.trans (bbc.mono (by omega))
 clear AB ZB XB YB HSB MUB XTB RYB HIB bbc bb10 hbb hTd XTd
 have hc:=toInt64S_any ta tn tc tk wc 0 N (by omega) (HKK.out wc gC) htn
 go_wp2_with fail
 refine hc.mono ?_
 rintro e wd ⟨ge,hge,rfl,hId,bd⟩
 have sd:=bd.size
 have hc2:=eqInt64S_same (some ⟨gy,0,none⟩) tn tn (some ⟨ge,0,none⟩) tn tk wd W7.heap.size wd.heap.size wc.heap.size wd.heap.size (Nat.le_refl _) (Nat.le_refl _) (HI.out wd _ gy (owns_below RYC.out bd)) (HI.out wd _ ge hId)
 clear hc
 go_wp2_with fail
 refine hc2.mono ?_
 rintro e we ⟨rfl,be⟩
 have se:=be.size
 have bde:=bd.trans (be.mono sd)
 have AE:=(bde.block N (by omega)).trans AC
 have ZE:=(bde.block Z (by omega)).trans ZC
 have XE:=(bde.block X (by omega)).trans XC
 have YE:=(bde.block Y (by omega)).trans YC
 have HSE:=Hid.i (HSC.out.below bde (by omega))
 have MUE:Hid (MarkU we W5.heap.size X gx n ts):=MUC.out.below bde (by omega)
 have RYE:=Hid.i (owns_below RYC.out bde)
 have HIE:=Hid.i (HIC.out.below (B:=0) bde)
 have gE:=gC.trans (bde.mono (by omega))
 clear hc2 hId AC ZC XC YC HSC MUC RYC HIC bde bd be
 have xe0:=cell_one_at XE
 have lXE:X<we.heap.size:=by omega
 have hc:=markTree_room gx n 1 W5.heap.size X ts we MUE.out (by omega) HM1.out
 obtain⟨km,hkm⟩:∃ km,1+mLens ts=km:=⟨_,rfl⟩
 rw[hkm] at hc
 have hkm9:km<=100000000:=by rw[<-hkm];exact HM1.out
 clear hkm
 go_wp2_with fail
 refine hc.mono ?_
 rintro e wf ⟨rfl,hmk⟩
 have ff:=hmk.fr
 have sf:=ff.size
 have hMy:M<=Y:=HIE.out.my
 have hLM:lo<=M:=HIE.out.lm
 have AF:=(ff.block N (by omega) (by omega)).trans AE
 have ZF:=(ff.block Z (by omega) (by omega)).trans ZE
 have YF:=(ff.block Y (by omega) (by omega)).trans YE
 have HSF:=Hid.i (HSE.out.keep (fun b hb=>ff.block b (by omega) (by omega)))
 have RYF:=Hid.i (owns_fr RYE.out ff (fun g e e2=>by have:=(RYE.out.lt g e).1;omega))
 have HIF:=Hid.i (HIE.out.fr ff (fun g e=>by omega))
 have gF:=gE.trans (ff.below (by omega) (fun g e=>by omega))
 clear hc xe0 AE ZE XE YE HSE MUE RYE HIE hmk ff
 have hc:=markInt64S_own (some ⟨gy,0,none⟩) tn tn km W7.heap.size _ wf RYF.out (by omega)
 have hd0:decide (((km+tn:Nat):Int)<0)=false:=by simp;omega
 go_wp2_with fail
 refine hc.mono ?_
 rintro e wg ⟨rfl,_,fg⟩
 have fg2:Fr (fun g=>g=gy) wf wg:=fg.weak (fun g e=>by simpa[Value.ownBlock] using e)
 have sg:=fg.size
 have AG:=(fg2.block N (by omega) (by omega)).trans AF
 have ZG:=(fg2.block Z (by omega) (by omega)).trans ZF
 have YG:=(fg2.block Y (by omega) (by omega)).trans YF
 have HSG:=Hid.i (HSF.out.keep (fun b hb=>fg2.block b (by omega) (by omega)))
 have HIG:=Hid.i (HIF.out.fr fg2 (fun g e=>by omega))
 have gG:=gF.trans (fg2.below (by omega) (fun g e=>by omega))
 clear hc AF ZF YF HSF RYF HIF fg fg2
 obtain⟨p0,p1,p2⟩:=box3K ZG
 obtain⟨p3,p4,p5⟩:=box3K YG
 have lZG:Z<wg.heap.size:=by omega
 have lYG:Y<wg.heap.size:=by omega
 have hc:=HIG.out.eq HSG.out (by omega)
 go_wp2_with fail
 refine hc.mono ?_
 rintro e wh ⟨rfl,bh⟩
 have sh:=bh.size
 have AH:=(bh.block N (by omega)).trans AG
 have ZH:=(bh.block Z (by omega)).trans ZG
 have YH:=(bh.block Y (by omega)).trans YG
 have HSH:=Hid.i (HSG.out.below bh (by omega))
 have HIH:=Hid.i (HIG.out.below (B:=0) bh)
 have gH:=gG.trans (bh.mono (by omega))
 clear hc p0 p1 p2 p3 p4 p5 AG ZG YG HSG HIG bh
 obtain⟨p3,p4,p5⟩:=box3K YH
 have lYH:Y<wh.heap.size:=by omega
 have hmn:m=(rl.map TN.nd).length:=by rw[List.length_map];exact HML.out.1.symm
 have hqn:q=(pl.map (pgOf tx)).length:=by rw[List.length_map];exact HML.out.2.symm
 have HMN:Hid (m=(rl.map TN.nd).length∧q=(pl.map (pgOf tx)).length):=⟨hmn,hqn⟩
 have HBK:Hid (∀ g,BlkP (.slice ia m ic) (rl.map TN.nd).length us (.slice ja q jc) (pl.map (pgOf tx)).length (usOf css) (.slice ka q kc) g->lo<=g∧g<Y):=fun g e=>by
  rcases e with e | e | e
  ·have h1:=HIH.out.ob g e;have h2:=(HIH.out.own.blk e).1;omega
  ·have h1:=HIH.out.pgs.blk e;omega
  ·have h1:=HIH.out.nb g e;have h2:=(HIH.out.nums.lt g e).1;omega
 have hc:=markPlaced_own ia m ic ja q jc ka q kc 1 lo M _ us _ (usOf css) _ wh HIH.out.own HIH.out.pgs.own HIH.out.nums hmn hqn (fun g e=>(HIH.out.pgs.blk e).2) HIH.out.nb HPB.out
 obtain⟨K,hK⟩:∃ K,kG (kT 1 (rl.map TN.nd)) (pl.map (pgOf tx))+q=K:=⟨_,rfl⟩
 have HK:Hid (kG (kT 1 (rl.map TN.nd)) (pl.map (pgOf tx))+q=K):=hK
 have hK1:K<=1000000000:=by rw[<-hK];exact HPB.out
 rw[hK] at hc
 clear hK hmn hqn
 go_wp2_with fail
 refine hc.mono ?_
 rintro e wi ⟨rfl,⟨oI,pI,nI⟩,fi⟩
 have si:=fi.size
 have hnb:∀ b,(b<lo∨Y<=b)->¬ BlkP (.slice ia m ic) (rl.map TN.nd).length us (.slice ja q jc) (pl.map (pgOf tx)).length (usOf css) (.slice ka q kc) b:=fun b h e=>by have:=HBK.out b e;omega
 have AI:=(fi.block N (by omega) (hnb N (by omega))).trans AH
 have ZI:=(fi.block Z (by omega) (hnb Z (by omega))).trans ZH
 have YI:=(fi.block Y (by omega) (hnb Y (by omega))).trans YH
 have HSI:=Hid.i (HSH.out.keep (fun b hb=>fi.block b (by omega) (hnb b (by omega))))
 have gI:=gH.trans (fi.below (by omega) (fun x e=>by have:=HBK.out x e;omega))
 clear hc p3 p4 p5 AH ZH YH HSH HIH fi hnb
 obtain⟨p3,p4,p5⟩:=box3K YI
 have lYI:Y<wi.heap.size:=by omega
 have hc:=heldPlaced_own ia m ic ja q jc ka q kc 1 lo M _ us _ (usOf css) wi oI pI nI HMN.out.1 HMN.out.2 HPB.out
 rw[HK.out] at hc
 have hd1:decide ((K:Int)<0)=false:=by simp
 have hnn:((K:Int) != (K:Int))=false:=by simp
 clear oI pI nI
 go_wp2_with fail
 refine hc.mono ?_
 rintro e wj ⟨rfl,bj⟩
 have sj:=bj.size
 have gJ:=gI.trans (bj.mono (by omega))
 have AJ:=(bj.block N (by omega)).trans AI
 have ZJ:=(bj.block Z (by omega)).trans ZI
 have HSJ:=Hid.i (HSI.out.below bj (by omega))
 clear hc p3 p4 p5 AI ZI YI HSI bj
 have xj0:=cell_one_at AJ
 have lJ:N<wj.heap.size:=by omega
 have hc:=toTree_any a n c ts wj 0 N (by omega) (HT.out wj gJ) hn HA.out
 go_wp2_with fail
 refine hc.mono ?_
 rintro e wk ⟨gh,rfl,hTk,bk⟩
 have sk:=bk.size
 have gK:=gJ.trans (bk.mono (by omega))
 have ZK:=(bk.block Z (by omega)).trans ZJ
 have HSK:=Hid.i (HSJ.out.below bk (by omega))
 clear hc xj0 AJ ZJ HSJ
 have hc:=toInt64S_any ta tn tc tk wk 0 N (by omega) (HKK.out wk gK) htn
 go_wp2_with fail
 refine hc.mono ?_
 rintro e wl ⟨tg2,htg2,rfl,hIl,bl⟩
 have sl:=bl.size
 have gL:=gK.trans (bl.mono (by omega))
 have ZL:=(bl.block Z (by omega)).trans ZK
 have HSL:=Hid.i (HSK.out.below bl (by omega))
 have HTL:=Hid.i (hTk.below bl)
 have HIL:=Hid.i (HI.out wl _ tg2 hIl)
 clear hc ZK HSK hTk hIl bk bl
 have hc:=HIP.out gh tg2 wl _ _ _ _ sl (Nat.le_refl _) HTL.out HIL.out
 go_wp2_with fail
 refine hc.mono ?_
 rintro e wm ⟨M2,ia2,ic2,ja2,jc2,ka2,kc2,us2,css2,rfl,hIm,bm⟩
 have sm:=bm.size
 have gM:=gL.trans (bm.mono (by omega))
 have ZM:=(bm.block Z (by omega)).trans ZL
 have HSM:=Hid.i (HSL.out.below bm (by omega))
 clear hc ZL HSL HTL HIL bm
 have bn:Below wm.heap.size wm (wm.alloc (.cells #[.slice ia2 m ic2,.slice ja2 q jc2,.slice ka2 q kc2] 32)):=(Below.refl _ _).alloc (Nat.le_refl _) _
 have HN7:=heap_alloc_new wm (.cells #[.slice ia2 m ic2,.slice ja2 q jc2,.slice ka2 q kc2] 32)
 have hIn:=hIm.below (B:=0) bn
 have sn:=bn.size
 go_upto_region 31 with fail
 generalize wm.alloc (.cells #[.slice ia2 m ic2,.slice ja2 q jc2,.slice ka2 q kc2] 32)=WN at bn HN7 hIn sn ⊢
 have gN:=gM.trans (bn.mono (by omega))
 have ZN:=(bn.block Z (by omega)).trans ZM
 have HSN:=Hid.i (HSM.out.below bn (by omega))
 have lH:=(Array.getElem?_eq_some_iff.1 HN7).1
 obtain⟨p0,p1,p2⟩:=box3K ZN
 obtain⟨p3,p4,p5⟩:=box3K HN7
 have lZN:Z<WN.heap.size:=by omega
 have hc:=hIn.eq HSN.out (by omega)
 clear hIm hIn bn ZM HSM
 go_wp2_with fail
 refine hc.mono ?_
 rintro e wo ⟨rfl,bo⟩
 have gO:Hid (Below N w wo):=gN.trans (bo.mono (by omega))
 clear hc bo
 go_wp2_with fail
 go_ret
 exact⟨rfl,gO.out⟩
end Go.Proofs.YtkhglgalbifcnaaGreat
