import Derived.Test.YtbfggcekifaldaaGreatTks
import Derived.Test.YtbfggcekifaldaaGreatHTui
import Derived.Test.YtbfggcekifaldaaGreatHTwh
import Derived.Test.YtbfggcekifaldaaGreatHTxa
import Derived.Test.YtbfggcekifaldaaGreatTxr
import Derived.Deep.RegionWith
namespace Go.Proofs.YtbfggcekifaldaaGreat
set_option maxHeartbeats 8000000
open Go.RowKit
set_option linter.unusedVariables false
set_option linter.unusedSimpArgs false
set_option maxRecDepth 100000
theorem run_fieldGet (b:Bool) (s:ByteArray) (w:World):(Instr.field 40 (.agg #[.bool b,.string s]) 0).run Tryz.prog w=.ok (.bool b) w:=by
 simp[Instr.field,asAgg,go_sem]
theorem specDel_any (ts:List TN) (a:Option Addr) (n c A B:Nat) (w:World) (hB:B<=w.heap.size) (hT:NodesAt w A B a n c ts) (hn:n<=1048576) (hb:∀ x ∈ ts,NodeLen x) (key:ByteArray) :
  Calls Tryz.prog 5 #[.agg #[.slice a n c],.string key] w fun e w'=>SpecTree w (delR ts key) e w':=by
 obtain⟨N,hN⟩:∃ N,w.heap.size=N:=⟨_,rfl⟩
 obtain⟨W,hW⟩:∃ W,W=((w.alloc (.cells #[.slice a n c] 28)).alloc (.cells #[.bool false,.slice none 0 0] 30)):=⟨_,rfl⟩
 have al:=alloc2N w (.cells #[.slice a n c] 28) (.cells #[.bool false,.slice none 0 0] 30)
 rw[<-hW,hN] at al
 obtain⟨k0,k1,sW,bW⟩:=al
 have HT:Hid (∀ V,Below N w V->NodesAt V A B a n c ts):=fun V h=>hT.below (h.mono (by omega))
 have HL:Hid (ts.length=n):=hT.1
 have HCP:Hid (∀ V,Below N w V->Calls Tryz.prog 15 #[.agg #[.slice a n c]] V fun e w'=>∃ a1 c1,e=.returned (.agg #[.slice a1 n c1])∧NodesAt w' V.heap.size w'.heap.size a1 n c1 ts∧Below V.heap.size V w'):=fun V h=>(l3Copy_any ts a n c A B V (by have:=h.size;omega) (HT.out V h) hn hb).mono (by rintro e w1 ⟨a1,c1,rfl,h1,h2⟩;exact⟨a1,c1,rfl,h1,h2⟩)
 have hget:=specGet_any ts key a n c A B W (by omega) (HT.out W bW)
 have x0:=cell_one_at k0
 have lN:N<W.heap.size:=by omega
 clear hT hb
 go_enter Tryz.func5,Tryz.ntmps5
 go_upto_region 1 with fail
 rw[<-hW]
 clear hW
 go_wp2_with fail
 refine hget.mono ?_
 rintro e w1 ⟨s,hs,rfl,hb1⟩
 have s1:=hb1.size
 have kA:=(hb1.block N (by omega)).trans k0
 have kN:=(hb1.block (N+1) (by omega)).trans k1
 have b1:Below N w w1:=bW.trans (hb1.mono (by omega))
 have hfd:=fun b v=>run_fieldGet b v w1
 clear hget x0 lN k0 k1 hb1 bW
 have x0:=cell_one_at kA
 have lN:N<w1.heap.size:=by omega
 cases hso:s.isSome
 ·have HPR:Hid (delR ts key=(false,ts)):=by
   show _=_
   by_cases hok:SpecOk ts
   ·refine delR_none (topT_rd hok) (fun hk=>?_)
    have h9:=hs.2 hok
    rw[<-look_has,<-h9,hso] at hk
    cases hk
   ·exact delR_no (topT_no (fun h=>hok ((valid_iff ts).2 h)))
  have hcp:=HCP.out w1 b1
  generalize valT s=sv
  clear hs hso
  go_wp2_with fail
  refine hcp.mono ?_
  rintro e w2 ⟨a1,c1,rfl,hN2,hb2⟩
  have s2:=hb2.size
  have kN2:=(hb2.block (N+1) (by omega)).trans kN
  have b2:Below N w w2:=b1.trans (hb2.mono (by omega))
  obtain⟨FN,FB,FK⟩:=specAns_lay (w:=w) (R:=N+1) (by omega) kN2 hN2 (by omega) (by omega) (by rw[hN];exact b2) false
  have HFN:Hid (NodesAt _ w.heap.size _ a1 n c1 ts):=FN
  have HFB:Hid (Below w.heap.size w _):=FB
  obtain⟨q2,q3⟩:=box_twoR kN2
  have ff:=thawT kN2
  have ln:=(Array.getElem?_eq_some_iff.1 kN2).1
  obtain⟨q4,q5⟩:=box_twoR FK
  clear FN FB hcp hN2 hb2
  go_wp2_with fail
  show bodyPost _ _ _ _ _ ((w2.setCell ⟨N+1,0,none⟩ (.bool false)).setCell ⟨N+1,1,none⟩ (.slice a1 n c1))
  refine bodyPost_ret (v:=.agg #[.bool false,.slice a1 n c1]) (by simp[results,Tryz.results5,go_sem,q4,q5]) rfl ?_
  rw[HPR.out]
  exact⟨a1,c1,by rw[HL.out],by rw[HL.out];exact HFN.out,HFB.out⟩
 ·have hok:SpecOk ts:=by
   by_cases h9:SpecOk ts
   ·exact h9
   ·rw[hs.1 h9] at hso;cases hso
  have HOK:Hid (SpecOk ts):=hok
  have hlk:=hs.2 hok
  have hn3:ts.length<=1000:=hok.1.2
  have hdeep:=l3Deep_any ts hn3 a n c A B w1 (by omega) (HT.out w1 b1)
  have HSL:Hid ((lookT key (rd ts (ts.length+1) 0).1.slots).isSome=true):=by show _=_;rw[<-hlk];exact hso
  generalize valT s=sv
  clear hs hso hok hlk HCP
  go_upto_region 4 with (go_at_call 16;refine hdeep.mono ?_;rintro e w4 ⟨ka,kn,kc,va,vn,vc,oa,on,oc,ya,yc,css,rfl,hX4,hb4⟩)
  clear hdeep x0 lN
  obtain⟨t,ht⟩:∃ t,(rd ts (ts.length+1) 0).1=t:=⟨_,rfl⟩
  have HT4:Hid ((rd ts (ts.length+1) 0).1=t):=ht
  rw[ht] at hX4 HSL ⊢
  clear ht
  generalize (!(rd ts (ts.length+1) 0).2.2 && decide ((rd ts (ts.length+1) 0).2.1=n))=okb
  have HTOP:Hid (topT ts=some t):=by show _=_;rw[topT_rd HOK.out,HT4.out]
  obtain⟨hio,_,hg,hsh,hht,htn,hso,hky8⟩:=topT_good HTOP.out
  have hnt:=topT_neat HTOP.out
  have HHAS:Hid (HasK key t.slots):=look_has.1 HSL.out
  have HRD:Hid ((rootD key t).good true=true∧(rootD key t).nodes<=100000∧(rootD key t).slots.all (fun s=>kyB s.1)=true):=by
   obtain⟨d1,d2,d3,d4,d5,d6⟩:=rootD_ok hg hnt hht hso hky8 HHAS.out
   have hnn:=nodes_root d1 d2
   rw[d4] at hnn
   have h5:=rem_len hso HHAS.out
   have h6:=slots_len t ⟨true,hg⟩
   exact⟨d1,by omega,d5⟩
  have hs4:=hb4.size
  have hX4':NodeX w4 0 w4.heap.size (fun b=>b<w4.heap.size) t ka kn kc va vn vc oa on oc ya yc css:=hX4.wide (fun _ _ _=>rfl) (fun _ _=>rfl) (fun b hb=>hb.2) (Nat.zero_le _) (by omega)
  have k4:=heap_alloc_new w4 (.cells #[.bool t.leaf,.int .i64 t.page,.slice ka kn kc,.slice va vn vc,.slice oa on oc,.slice ya t.kids.length yc] 47)
  have ab4:=(Below.refl w4.heap.size w4).alloc (Nat.le_refl _) (.cells #[.bool t.leaf,.int .i64 t.page,.slice ka kn kc,.slice va vn vc,.slice oa on oc,.slice ya t.kids.length yc] 47)
  have sb4:(w4.alloc (.cells #[.bool t.leaf,.int .i64 t.page,.slice ka kn kc,.slice va vn vc,.slice oa on oc,.slice ya t.kids.length yc] 47)).heap.size=w4.heap.size+1:=by simp
  have hSN:SN (w4.alloc (.cells #[.bool t.leaf,.int .i64 t.page,.slice ka kn kc,.slice va vn vc,.slice oa on oc,.slice ya t.kids.length yc] 47)) (fun b=>b<w4.heap.size) t (.agg #[.bool t.leaf,.int .i64 t.page,.slice ka kn kc,.slice va vn vc,.slice oa on oc,.slice ya t.kids.length yc]):=SN.below ⟨_,_,_,_,_,_,_,_,_,_,_,_,rfl,hX4'.q⟩ ab4
  generalize w4.alloc (.cells #[.bool t.leaf,.int .i64 t.page,.slice ka kn kc,.slice va vn vc,.slice oa on oc,.slice ya t.kids.length yc] 47)=W4 at k4 ab4 sb4 hSN ⊢
  have b24:=hb4.trans (ab4.mono (by omega))
  have kN4:=(b24.block (N+1) (by omega)).trans kN
  have b4:Below N w W4:=b1.trans (b24.mono (by omega))
  have hdel:=l3Del_any key t true hg hnt hht hso HHAS.out W4 _ _ (fun b hb=>by omega) hSN
  obtain⟨K4,hK4⟩:∃ K4,w4.heap.size=K4:=⟨_,rfl⟩
  rw[hK4] at k4 sb4
  obtain⟨q0,q1,q2,q3,q4,q5⟩:=box6g k4
  have l4:K4<W4.heap.size:=by omega
  have HDL:Hid ((delT key t).size<=4):=(del_is key t true hg hnt hht hso HHAS.out).soft.size.2
  clear hX4 hX4' hb4 ab4 b24 kN kA b1 hSN hg hsh hht htn hso hky8 hio hn3 hnt HSL
  obtain⟨d,hd⟩:∃ d,delT key t=d:=⟨_,rfl⟩
  have HD:Hid (delT key t=d):=hd
  rw[hd] at hdel HDL
  clear hd
  go_upto_region 5 with (go_at_call 17;refine hdel.mono ?_;rintro e w5 ⟨v5,rfl,hS5,hb5⟩;obtain⟨kaD,knD,kcD,vaD,vnD,vcD,oaD,onD,ocD,yaD,ycD,cssD,rfl,hQ5⟩:=hS5)
  have s5:=hb5.size
  have kN5:=(hb5.block (N+1) (by omega)).trans kN4
  have b5:Below N w w5:=b4.trans (hb5.mono (by omega))
  clear hdel q0 q1 q2 q3 q4 q5 k4 kN4 b4 hb5
  have k6:=heap_alloc_new w5 (.cells #[.bool d.leaf,.int .i64 d.page,.slice kaD knD kcD,.slice vaD vnD vcD,.slice oaD onD ocD,.slice yaD d.kids.length ycD] 47)
  have ab6:=(Below.refl w5.heap.size w5).alloc (Nat.le_refl _) (.cells #[.bool d.leaf,.int .i64 d.page,.slice kaD knD kcD,.slice vaD vnD vcD,.slice oaD onD ocD,.slice yaD d.kids.length ycD] 47)
  have sb6:(w5.alloc (.cells #[.bool d.leaf,.int .i64 d.page,.slice kaD knD kcD,.slice vaD vnD vcD,.slice oaD onD ocD,.slice yaD d.kids.length ycD] 47)).heap.size=w5.heap.size+1:=by simp
  generalize w5.alloc (.cells #[.bool d.leaf,.int .i64 d.page,.slice kaD knD kcD,.slice vaD vnD vcD,.slice oaD onD ocD,.slice yaD d.kids.length ycD] 47)=W6 at k6 ab6 sb6 ⊢
  obtain⟨K5,hK5⟩:∃ K5,w5.heap.size=K5:=⟨_,rfl⟩
  rw[hK5] at k6 ab6 sb6
  have kN6:=(ab6.block (N+1) (by omega)).trans kN5
  have b6:Below N w W6:=b5.trans (ab6.mono (by omega))
  have HQ5:Hid (QX w5 w5.heap.size (fun g=>g<w4.heap.size∨W4.heap.size<=g) d kaD knD kcD vaD vnD vcD oaD onD ocD yaD ycD cssD):=hQ5
  have hRX0:NodeX W6 0 K5 (fun b=>b<K5) d kaD knD kcD vaD vnD vcD oaD onD ocD yaD ycD cssD:=(hK5 ▸ hQ5.nx).belowC ab6
  clear kN5 b5 hQ5
  cases hl:d.leaf
  ·by_cases hl1:d.kids.length=1
   ·obtain⟨bb,off,rfl,hbl,k,hki,hkm,kaE,knE,kcE,vaE,vnE,vcE,oaE,onE,ocE,yaE,ycE,hSk,d0,d1,d2,d3,d4,d5⟩:=kid_at HQ5.out (i:=0) (by omega)
    simp only[Nat.zero_mul,Nat.add_zero] at d0 d1 d2 d3 d4 d5
    have HRT:Hid (rootD key t=k):=by
     show _=_
     unfold rootD wayT
     rw[HD.out,if_pos ⟨hl,hl1⟩]
     obtain⟨z,hz⟩:∃ z,d.kids=[z]:=List.length_eq_one_iff.1 hl1
     rw[hz] at hki ⊢
     simp at hki
     rw[hki];rfl
    have hcD:=HQ5.out.nx.cap
    have hcD1:=hcD.1
    have hcD2:=hcD.2
    unfold maxLen at hcD2
    rw[hl1] at hcD1
    obtain⟨e0,e1,e2,e3,e4,e5,e6,e7,e8,e9,e10,cs9,ee,hkX⟩:=hSk
    cases ee
    have kB:W6.heap[bb]?=w5.heap[bb]?:=ab6.block bb (by omega)
    have hcW:∀ x,W6.cell? ⟨bb,x,none⟩=w5.cell? ⟨bb,x,none⟩:=fun x=>World.cell?_of_block (a:=⟨bb,x,none⟩) kB
    rw[<-hcW] at d0 d1 d2 d3 d4 d5
    have lbb:bb<W6.heap.size:=by omega
    have hkX6:NodeX W6 0 K5 (fun b=>b<K5) k kaE knE kcE vaE vnE vcE oaE onE ocE yaE ycE cs9:=(hK5 ▸ hkX.nx).belowC ab6
    have f6:=thawT k6
    rw[hl,hl1] at k6
    obtain⟨q0,q1,q2,q3,q4,q5⟩:=box6g k6
    have l6:K5<W6.heap.size:=by omega
    have hp:=put6T_fr W6 K5 (.bool k.leaf) (.int .i64 k.page) (.slice kaE knE kcE) (.slice vaE vnE vcE) (.slice oaE onE ocE) (.slice yaE k.kids.length ycE)
    have kO:=put6T_box k6 (.bool k.leaf) (.int .i64 k.page) (.slice kaE knE kcE) (.slice vaE vnE vcE) (.slice oaE onE ocE) (.slice yaE k.kids.length ycE)
    have bp:Below K5 W6 (put6T W6 K5 (.bool k.leaf) (.int .i64 k.page) (.slice kaE knE kcE) (.slice vaE vnE vcE) (.slice oaE onE ocE) (.slice yaE k.kids.length ycE)):=hp.below (by omega) (fun g e=>by omega)
    have hRX:=hkX6.belowC bp
    have kNX:=(bp.block (N+1) (by omega)).trans kN6
    have bX:Below N w (put6T W6 K5 (.bool k.leaf) (.int .i64 k.page) (.slice kaE knE kcE) (.slice vaE vnE vcE) (.slice oaE onE ocE) (.slice yaE k.kids.length ycE)):=b6.trans (bp.mono (by omega))
    have sXX:=hp.size
    clear hki hkm hkX hkX6 hRX0 kN6 b6 HQ5 hcW kB ab6 hbl
    go_upto_region 7 with fail
    rw[put6T_eq]
    generalize put6T W6 K5 (.bool k.leaf) (.int .i64 k.page) (.slice kaE knE kcE) (.slice vaE vnE vcE) (.slice oaE onE ocE) (.slice yaE k.kids.length ycE)=X at kO hRX kNX bX sXX ⊢
    clear hp bp d0 d1 d2 d3 d4 d5 q0 q1 q2 q3 q4 q5 k6 f6
    have sX:=(Array.getElem?_eq_some_iff.1 kO).1
    have htr:Calls Tryz.prog 18 #[.agg #[.bool k.leaf,.int .i64 k.page,.slice kaE knE kcE,.slice vaE vnE vcE,.slice oaE onE ocE,.slice yaE k.kids.length ycE]] X fun e w'=>∃ g c css,e=.returned (.agg #[.slice (some ⟨g,0,none⟩) ((k).flat 0).length c])∧FlatAt w' X.heap.size g c css ((k).flat 0)∧Below X.heap.size X w':=l3Tree_any K5 k ⟨true,by have:=HRD.out.1;rw[HRT.out] at this;exact this⟩ (by have:=HRD.out.2.1;rw[HRT.out] at this;exact this) (by have:=HRD.out.2.2;rw[HRT.out] at this;exact this) X kaE knE kcE vaE vnE vcE oaE onE ocE yaE ycE cs9 (by omega) hRX
    have HPR:Hid (delR ts key=(true,(k).flat 0)):=by
     show _=_
     rw[delR_some HTOP.out HHAS.out,HRT.out]
    obtain⟨q0,q1,q2,q3,q4,q5⟩:=box6g kO
    obtain⟨fl,hfl⟩:∃ fl,(k).flat 0=fl:=⟨_,rfl⟩
    rw[hfl] at htr HPR
    clear hfl hRX
    go_wp2_with fail
    refine htr.mono ?_
    rintro e w8 ⟨g8,c8,css8,rfl,hF8,hb8⟩
    have s8:=hb8.size
    have kN8:=(hb8.block (N+1) (by omega)).trans kNX
    obtain⟨FN,FB,FK⟩:=specAns_lay (w:=w) (R:=N+1) (by omega) kN8 hF8.nodes (by omega) (Nat.le_refl _) (by rw[hN];exact bX.trans (hb8.mono (by omega))) true
    have HFN:Hid (NodesAt _ w.heap.size _ (some ⟨g8,0,none⟩) fl.length c8 fl):=FN
    have HFB:Hid (Below w.heap.size w _):=FB
    obtain⟨r2,r3⟩:=box_twoR kN8
    have ff:=thawT kN8
    have ln:=(Array.getElem?_eq_some_iff.1 kN8).1
    obtain⟨r4,r5⟩:=box_twoR FK
    clear FN FB htr hF8 hb8 q0 q1 q2 q3 q4 q5
    go_wp2_with fail
    show bodyPost _ _ _ _ _ ((w8.setCell ⟨N+1,0,none⟩ (.bool true)).setCell ⟨N+1,1,none⟩ (.slice (some ⟨g8,0,none⟩) fl.length c8))
    refine bodyPost_ret (v:=.agg #[.bool true,.slice (some ⟨g8,0,none⟩) fl.length c8]) (by simp[results,Tryz.results5,go_sem,r4,r5]) rfl ?_
    rw[HPR.out]
    exact⟨_,c8,rfl,⟨rfl,HFN.out.2⟩,HFB.out⟩
   ·have HRT:Hid (rootD key t=d):=by
     show _=_
     unfold rootD wayT
     rw[HD.out,if_neg (fun e=>hl1 e.2)]
    obtain⟨X,hXe⟩:∃ X,W6=X:=⟨_,rfl⟩
    rw[hXe] at k6 kN6 b6 sb6 hRX0 ⊢
    have kO:=k6
    have hRX:=hRX0
    have kNX:=kN6
    have bX:=b6
    obtain⟨cs9,hcs9⟩:∃ cs9,cssD=cs9:=⟨_,rfl⟩
    rw[hcs9] at hRX
    have hne1:¬ ((d.kids.length:Int)=1):=by omega
    have hlf:d.leaf=false:=hl
    obtain⟨p0,p1,p2,p3,p4,p5⟩:=box6g k6
    rw[hl] at p0
    have lK5:K5<X.heap.size:=(Array.getElem?_eq_some_iff.1 k6).1
    have hkl4:d.kids.length<=4:=by have h9:=HDL.out;simp only[T.size,hl] at h9;simpa using h9
    clear hXe ab6 hRX0 k6 kN6 b6 HQ5 hl hl1 hlf
    go_upto_region 7 with fail
    clear p0 p1 p2 p3 p4 p5
    have sX:=(Array.getElem?_eq_some_iff.1 kO).1
    have htr:Calls Tryz.prog 18 #[.agg #[.bool d.leaf,.int .i64 d.page,.slice kaD knD kcD,.slice vaD vnD vcD,.slice oaD onD ocD,.slice yaD d.kids.length ycD]] X fun e w'=>∃ g c css,e=.returned (.agg #[.slice (some ⟨g,0,none⟩) ((d).flat 0).length c])∧FlatAt w' X.heap.size g c css ((d).flat 0)∧Below X.heap.size X w':=l3Tree_any K5 d ⟨true,by have:=HRD.out.1;rw[HRT.out] at this;exact this⟩ (by have:=HRD.out.2.1;rw[HRT.out] at this;exact this) (by have:=HRD.out.2.2;rw[HRT.out] at this;exact this) X kaD knD kcD vaD vnD vcD oaD onD ocD yaD ycD cs9 (by omega) hRX
    have HPR:Hid (delR ts key=(true,(d).flat 0)):=by
     show _=_
     rw[delR_some HTOP.out HHAS.out,HRT.out]
    obtain⟨q0,q1,q2,q3,q4,q5⟩:=box6g kO
    obtain⟨fl,hfl⟩:∃ fl,(d).flat 0=fl:=⟨_,rfl⟩
    rw[hfl] at htr HPR
    clear hfl hRX
    go_wp2_with fail
    refine htr.mono ?_
    rintro e w8 ⟨g8,c8,css8,rfl,hF8,hb8⟩
    have s8:=hb8.size
    have kN8:=(hb8.block (N+1) (by omega)).trans kNX
    obtain⟨FN,FB,FK⟩:=specAns_lay (w:=w) (R:=N+1) (by omega) kN8 hF8.nodes (by omega) (Nat.le_refl _) (by rw[hN];exact bX.trans (hb8.mono (by omega))) true
    have HFN:Hid (NodesAt _ w.heap.size _ (some ⟨g8,0,none⟩) fl.length c8 fl):=FN
    have HFB:Hid (Below w.heap.size w _):=FB
    obtain⟨r2,r3⟩:=box_twoR kN8
    have ff:=thawT kN8
    have ln:=(Array.getElem?_eq_some_iff.1 kN8).1
    obtain⟨r4,r5⟩:=box_twoR FK
    clear FN FB htr hF8 hb8 q0 q1 q2 q3 q4 q5
    go_wp2_with fail
    show bodyPost _ _ _ _ _ ((w8.setCell ⟨N+1,0,none⟩ (.bool true)).setCell ⟨N+1,1,none⟩ (.slice (some ⟨g8,0,none⟩) fl.length c8))
    refine bodyPost_ret (v:=.agg #[.bool true,.slice (some ⟨g8,0,none⟩) fl.length c8]) (by simp[results,Tryz.results5,go_sem,r4,r5]) rfl ?_
    rw[HPR.out]
    exact⟨_,c8,rfl,⟨rfl,HFN.out.2⟩,HFB.out⟩
  ·have HRT:Hid (rootD key t=d):=by
    show _=_
    unfold rootD wayT
    rw[HD.out,if_neg (fun e=>by rw[hl] at e;cases e.1)]
   obtain⟨X,hXe⟩:∃ X,W6=X:=⟨_,rfl⟩
   rw[hXe] at k6 kN6 b6 sb6 hRX0 ⊢
   have kO:=k6
   have hRX:=hRX0
   have kNX:=kN6
   have bX:=b6
   obtain⟨cs9,hcs9⟩:∃ cs9,cssD=cs9:=⟨_,rfl⟩
   rw[hcs9] at hRX
   obtain⟨p0,p1,p2,p3,p4,p5⟩:=box6g k6
   rw[hl] at p0
   have lK5:K5<X.heap.size:=(Array.getElem?_eq_some_iff.1 k6).1
   clear hXe ab6 hRX0 k6 kN6 b6 HQ5 hl
   go_upto_region 7 with fail
   clear p0 p1 p2 p3 p4 p5
   have sX:=(Array.getElem?_eq_some_iff.1 kO).1
   have htr:Calls Tryz.prog 18 #[.agg #[.bool d.leaf,.int .i64 d.page,.slice kaD knD kcD,.slice vaD vnD vcD,.slice oaD onD ocD,.slice yaD d.kids.length ycD]] X fun e w'=>∃ g c css,e=.returned (.agg #[.slice (some ⟨g,0,none⟩) ((d).flat 0).length c])∧FlatAt w' X.heap.size g c css ((d).flat 0)∧Below X.heap.size X w':=l3Tree_any K5 d ⟨true,by have:=HRD.out.1;rw[HRT.out] at this;exact this⟩ (by have:=HRD.out.2.1;rw[HRT.out] at this;exact this) (by have:=HRD.out.2.2;rw[HRT.out] at this;exact this) X kaD knD kcD vaD vnD vcD oaD onD ocD yaD ycD cs9 (by omega) hRX
   have HPR:Hid (delR ts key=(true,(d).flat 0)):=by
    show _=_
    rw[delR_some HTOP.out HHAS.out,HRT.out]
   obtain⟨q0,q1,q2,q3,q4,q5⟩:=box6g kO
   obtain⟨fl,hfl⟩:∃ fl,(d).flat 0=fl:=⟨_,rfl⟩
   rw[hfl] at htr HPR
   clear hfl hRX
   go_wp2_with fail
   refine htr.mono ?_
   rintro e w8 ⟨g8,c8,css8,rfl,hF8,hb8⟩
   have s8:=hb8.size
   have kN8:=(hb8.block (N+1) (by omega)).trans kNX
   obtain⟨FN,FB,FK⟩:=specAns_lay (w:=w) (R:=N+1) (by omega) kN8 hF8.nodes (by omega) (Nat.le_refl _) (by rw[hN];exact bX.trans (hb8.mono (by omega))) true
   have HFN:Hid (NodesAt _ w.heap.size _ (some ⟨g8,0,none⟩) fl.length c8 fl):=FN
   have HFB:Hid (Below w.heap.size w _):=FB
   obtain⟨r2,r3⟩:=box_twoR kN8
   have ff:=thawT kN8
   have ln:=(Array.getElem?_eq_some_iff.1 kN8).1
   obtain⟨r4,r5⟩:=box_twoR FK
   clear FN FB htr hF8 hb8 q0 q1 q2 q3 q4 q5
   go_wp2_with fail
   show bodyPost _ _ _ _ _ ((w8.setCell ⟨N+1,0,none⟩ (.bool true)).setCell ⟨N+1,1,none⟩ (.slice (some ⟨g8,0,none⟩) fl.length c8))
   refine bodyPost_ret (v:=.agg #[.bool true,.slice (some ⟨g8,0,none⟩) fl.length c8]) (by simp[results,Tryz.results5,go_sem,r4,r5]) rfl ?_
   rw[HPR.out]
   exact⟨_,c8,rfl,⟨rfl,HFN.out.2⟩,HFB.out⟩
theorem smallT_ofP {ts:List TN} {n:Nat} (hl:ts.length=n) (hw:wTNs ts<=1048576):n<=1048576∧SmallT ts:=by
 have h1:=wTNs_len ts
 refine⟨by omega,fun j hj=>?_⟩
 have h2:=wTNs_get ts j hj
 have h3:=wStrs_len (ts.getD j dT).keys
 have h4:=wStrs_len (ts.getD j dT).vals
 unfold wTN at h2
 omega
theorem del_kT (ts:List TN) (key:ByteArray) (h:1+mLens ts<=100000000):kT 1 ((delR ts key).2.map TN.nd)<=1000000000:=by
 cases ht:topT ts with
 | none=>rw[delR_no ht];show kT 1 (ts.map TN.nd)<=_;rw[kT_mLens];omega
 | some t =>
  by_cases hk:HasK key t.slots
  ·rw[delR_some ht hk]
   obtain⟨hio,_,hg,hsh,hht,htn,hso,hky8⟩:=topT_good ht
   obtain⟨d1,d2,d3,d4,d5,d6⟩:=rootD_ok hg (topT_neat ht) hht hso hky8 hk
   have hnn:=nodes_root d1 d2
   rw[d4] at hnn
   have h5:=rem_len hso hk
   have h6:=slots_len t ⟨true,hg⟩
   have h1:=kT_short ((rootD key t).flat 0) 1 (flat_short _ ⟨true,d1⟩ 0)
   have h2:=flat_le (rootD key t) 0
   show kT 1 (((rootD key t).flat 0).map TN.nd)<=_
   omega
  ·rw[delR_none ht hk];show kT 1 (ts.map TN.nd)<=_;rw[kT_mLens];omega
theorem law_TreeDel (a:Option Addr) (n c:Nat) (ts:List TN) (key:ByteArray) (hkey:key.size<=maxLen) (w:World) (hT:NodesAt w 0 w.heap.size a n c ts) :
  Calls Tryz.prog 3 #[.agg #[.slice a n c],.string key] w fun e w'=>e=.returned (.bool true)∧Below w.heap.size w w':=by
 have hb0:Below w.heap.size w (w.alloc (.cells #[.slice a n c] 24)):=(Below.refl _ _).alloc (Nat.le_refl _) _
 unfold maxLen at hkey
 obtain⟨N,hN⟩:∃ N,w.heap.size=N:=⟨_,rfl⟩
 have A0:=heap_alloc_new w (.cells #[.slice a n c] 24)
 have z0:(w.alloc (.cells #[.slice a n c] 24)).heap.size=N+1:=by simp[hN]
 rw[hN] at hb0 A0 hT ⊢
 have HT:Hid (∀ V,Below N w V->NodesAt V 0 N a n c ts):=fun V h=>hT.below h
 have HL:Hid (ts.length=n):=hT.1
 clear hT
 go_enter Tryz.func3,Tryz.ntmps3
 go_upto_region 1 with fail
 generalize w.alloc (.cells #[.slice a n c] 24)=W0 at hb0 A0 z0 ⊢
 have x00:=cell_one_at A0
 have l0:N<W0.heap.size:=by omega
 by_cases t1:1048576<key.size
 ·go_wp2_with fail
  go_ret
  exact⟨rfl,hb0⟩
 have hsz:=szTree_any a n c ts 1048576 W0 (by omega) (by omega) 0 N (by omega) (HT.out W0 hb0)
 go_wp2_with fail
 refine hsz.mono ?_
 rintro e w1 ⟨r,rfl,hr,hb1⟩
 have g1:=hb0.trans (hb1.mono (by omega))
 have s1:=hb1.size
 have A1:=(hb1.block N l0).trans A0
 have x10:=cell_one_at A1
 have l1:N<w1.heap.size:=by omega
 clear hsz x00 hb1 A0
 by_cases t3:r<0
 ·go_wp2_with fail
  go_ret
  exact⟨rfl,g1⟩
 have hw:=hr.2.2 (by omega)
 obtain⟨hn,hall⟩:=smallT_ofP HL.out (by omega)
 have hml:=mLens_le ts
 have HM1:Hid (1+mLens ts<=100000000):=by show _<=_;omega
 have HA:Hid (SmallT ts):=hall
 have HNL:Hid (∀ x ∈ ts,NodeLen x):=nodeLen_small hall
 have HKT:Hid (kT 1 ((delR ts key).2.map TN.nd)<=1000000000):=del_kT ts key HM1.out
 clear hw hr hall hml
 obtain⟨rb,hrb⟩:∃ rb,(delR ts key).1=rb:=⟨_,rfl⟩
 obtain⟨rl,hrl⟩:∃ rl,(delR ts key).2=rl:=⟨_,rfl⟩
 have HR:Hid ((delR ts key).1=rb∧(delR ts key).2=rl):=⟨hrb,hrl⟩
 rw[hrl] at HKT
 clear hrb hrl
 obtain⟨m,hm⟩:∃ m,rl.length=m:=⟨_,rfl⟩
 have HM:Hid (rl.length=m):=hm
 clear hm
 have HSP:Hid (∀ (ga:Option Addr) (V:World) (A B:Nat),B<=V.heap.size->NodesAt V A B ga n n ts->Calls Tryz.prog 5 #[.agg #[.slice ga n n],.string key] V fun e w'=>∃ oa oc,e=.returned (.agg #[.bool rb,.slice oa m oc])∧NodesAt w' V.heap.size w'.heap.size oa m oc rl∧Below V.heap.size V w'):=fun ga V A B hB h=>by
  have h1:=specDel_any ts ga n n A B V hB h hn HNL.out key
  unfold SpecTree at h1
  rw[HR.out.1,HR.out.2,HM.out] at h1
  exact h1
 have HIP:Hid (∀ (ga:Option Addr) (V:World) (A B:Nat),B<=V.heap.size->NodesAt V A B ga n n ts->Calls Tryz.prog 7 #[.agg #[.slice ga n n],.string key] V fun e w'=>∃ oa oc us,e=.returned (.agg #[.bool rb,.slice oa m oc])∧OwnT w' V.heap.size (.slice oa m oc) (rl.map TN.nd) us∧Below V.heap.size V w'):=fun ga V A B hB h=>by
  have h1:=implDel_any ts ga n n A B V hB h hn HNL.out key
  unfold TreeAns at h1
  rw[HR.out.1,HR.out.2,HM.out] at h1
  exact h1
 clear HR
 have hc:=toTree_any a n c ts w1 0 N (by omega) (HT.out w1 g1) hn HA.out
 go_wp2_with fail
 refine hc.mono ?_
 rintro e w2 ⟨ga,rfl,hT2,hb2⟩
 have g2:=g1.trans (hb2.mono (by omega))
 have s2:=hb2.size
 have A2:=(hb2.block N l1).trans A1
 clear hc x10
 have hc:=HSP.out _ w2 _ _ (Nat.le_refl _) hT2
 clear HSP
 go_wp2_with fail
 refine hc.mono ?_
 rintro e w3 ⟨oa,oc,rfl,nA,b3⟩
 have s3:=b3.size
 have g3:=g2.trans (b3.mono (by omega))
 have A3:=(b3.block N (by omega)).trans A2
 clear hc hT2 hb2 A1 A2
 obtain⟨Z,hZ⟩:∃ Z,w3.heap.size=Z:=⟨_,rfl⟩
 have b4:Below w3.heap.size w3 (w3.alloc (.cells #[.bool rb,.slice oa m oc] 30)):=(Below.refl _ _).alloc (Nat.le_refl _) _
 have Z4:=heap_alloc_new w3 (.cells #[.bool rb,.slice oa m oc] 30)
 have z4:(w3.alloc (.cells #[.bool rb,.slice oa m oc] 30)).heap.size=Z+1:=by rw[<-hZ];simp
 go_upto_region 8 with fail
 generalize w3.alloc (.cells #[.bool rb,.slice oa m oc] 30)=W4 at b4 Z4 z4 ⊢
 rw[hZ] at b4 Z4 nA
 have NA4:Hid (NodesAt W4 w2.heap.size Z oa m oc rl):=nA.below b4
 have g4:=g3.trans (b4.mono (by omega))
 have A4:=(b4.block N (by omega)).trans A3
 have hZ1:w2.heap.size<=Z:=by omega
 clear nA b3 b4 A3
 have x40:=cell_one_at A4
 have l4:N<W4.heap.size:=by omega
 have hc:=toTree_mark a n c ts W4 0 N (by omega) (HT.out W4 g4) hn HA.out
 go_wp2_with fail
 refine hc.mono ?_
 rintro e w5 ⟨gx,rfl,hT5,hb5,mk5⟩
 have s5:=hb5.size
 have A5:=(hb5.block N l4).trans A4
 have Z5:=(hb5.block Z (by omega)).trans Z4
 have NA5:Hid (NodesAt w5 w2.heap.size Z oa m oc rl):=NA4.out.below (hb5.mono (by omega))
 have g5:=g4.trans (hb5.mono (by omega))
 have MU5:=mk5.u
 clear hc x40 A4 Z4 NA4 hb5 mk5
 obtain⟨X,hX⟩:∃ X,w5.heap.size=X:=⟨_,rfl⟩
 have b6:Below w5.heap.size w5 (w5.alloc (.cells #[.slice (some ⟨gx,0,none⟩) n n] 28)):=(Below.refl _ _).alloc (Nat.le_refl _) _
 have X6:=heap_alloc_new w5 (.cells #[.slice (some ⟨gx,0,none⟩) n n] 28)
 have z6:(w5.alloc (.cells #[.slice (some ⟨gx,0,none⟩) n n] 28)).heap.size=X+1:=by rw[<-hX];simp
 have MU6:=MU5.below b6 (Nat.le_refl _)
 have XT6:=hT5.below b6
 go_upto_region 9 with fail
 generalize w5.alloc (.cells #[.slice (some ⟨gx,0,none⟩) n n] 28)=W6 at b6 X6 z6 MU6 XT6 ⊢
 have A6:=(b6.block N (by omega)).trans A5
 have Z6:=(b6.block Z (by omega)).trans Z5
 have NA6:Hid (NodesAt W6 w2.heap.size Z oa m oc rl):=NA5.out.below (b6.mono (by omega))
 have g6:=g5.trans (b6.mono (by omega))
 rw[hX] at X6 MU6 XT6
 have MU:Hid (MarkU W6 W4.heap.size X gx n ts):=MU6
 have XT:Hid (NodesAt W6 W4.heap.size X (some ⟨gx,0,none⟩) n n ts):=XT6
 have hX1:W4.heap.size<=X:=by omega
 clear MU5 MU6 XT6 hT5 A5 Z5 NA5 b6
 have x60:=cell_one_at X6
 have l6:X<W6.heap.size:=by omega
 have hc:=HIP.out _ W6 _ _ (by omega) XT.out
 go_wp2_with fail
 refine hc.mono ?_
 rintro e w7 ⟨ia,ic,us,rfl,oT,b7⟩
 have s7:=b7.size
 have A7:=(b7.block N (by omega)).trans A6
 have Z7:=(b7.block Z (by omega)).trans Z6
 have X7:=(b7.block X l6).trans X6
 have NA7:Hid (NodesAt w7 w2.heap.size Z oa m oc rl):=NA6.out.below (b7.mono (by omega))
 have MU7:Hid (MarkU w7 W4.heap.size X gx n ts):=MU.out.below b7 (by omega)
 have XT7:Hid (NodesAt w7 W4.heap.size X (some ⟨gx,0,none⟩) n n ts):=XT.out.below (b7.mono (by omega))
 have g7:=g6.trans (b7.mono (by omega))
 clear hc x60 A6 Z6 X6 NA6 MU XT b7
 obtain⟨Y,hY⟩:∃ Y,w7.heap.size=Y:=⟨_,rfl⟩
 have HBK:Hid (∀ q,BlkT (.slice ia m ic) (rl.map TN.nd).length us q->W6.heap.size<=q∧q<Y):=fun q hq=>by have:=oT.blk hq;omega
 have b8:Below w7.heap.size w7 (w7.alloc (.cells #[.bool rb,.slice ia m ic] 30)):=(Below.refl _ _).alloc (Nat.le_refl _) _
 have Y8:=heap_alloc_new w7 (.cells #[.bool rb,.slice ia m ic] 30)
 have z8:(w7.alloc (.cells #[.bool rb,.slice ia m ic] 30)).heap.size=Y+1:=by rw[<-hY];simp
 have oT8:=oT.below b8
 go_upto_region 10 with fail
 generalize w7.alloc (.cells #[.bool rb,.slice ia m ic] 30)=W8 at b8 Y8 z8 oT8 ⊢
 have A8:=(b8.block N (by omega)).trans A7
 have Z8:=(b8.block Z (by omega)).trans Z7
 have X8:=(b8.block X (by omega)).trans X7
 have NA8:Hid (NodesAt W8 w2.heap.size Z oa m oc rl):=NA7.out.below (b8.mono (by omega))
 have MU8:Hid (MarkU W8 W4.heap.size X gx n ts):=MU7.out.below b8 (by omega)
 have XT8:Hid (NodesAt W8 W4.heap.size X (some ⟨gx,0,none⟩) n n ts):=XT7.out.below (b8.mono (by omega))
 have g8:=g7.trans (b8.mono (by omega))
 rw[hY] at Y8
 have IN8:Hid (NodesAt W8 W6.heap.size W8.heap.size ia m ic rl):=oT8.nodes HM.out.symm NA8.out
 have OT8:Hid (OwnT W8 W6.heap.size (.slice ia m ic) (rl.map TN.nd) us):=oT8
 have hY1:W6.heap.size<=Y:=by omega
 clear oT oT8 A7 Z7 X7 NA7 MU7 XT7 b8
 obtain⟨p0,p1⟩:=box_twoR Z8
 obtain⟨p2,p3⟩:=box_twoR Y8
 have lZ8:Z<W8.heap.size:=by omega
 have lY8:Y<W8.heap.size:=by omega
 have hc:=eqTreeRes_same rb ia m ic oa oc rl W8 W6.heap.size W8.heap.size w2.heap.size Z (Nat.le_refl _) (by omega) IN8.out NA8.out
 go_wp2_with fail
 refine hc.mono ?_
 rintro e w9 ⟨rfl,b9⟩
 have s9:=b9.size
 have A9:=(b9.block N (by omega)).trans A8
 have Z9:=(b9.block Z (by omega)).trans Z8
 have X9:=(b9.block X (by omega)).trans X8
 have Y9:=(b9.block Y (by omega)).trans Y8
 have NA9:Hid (NodesAt w9 w2.heap.size Z oa m oc rl):=NA8.out.below (b9.mono (by omega))
 have MU9:Hid (MarkU w9 W4.heap.size X gx n ts):=MU8.out.below b9 (by omega)
 have XT9:Hid (NodesAt w9 W4.heap.size X (some ⟨gx,0,none⟩) n n ts):=XT8.out.below (b9.mono (by omega))
 have IN9:Hid (NodesAt w9 W6.heap.size W8.heap.size ia m ic rl):=IN8.out.below b9
 have OT9:Hid (OwnT w9 W6.heap.size (.slice ia m ic) (rl.map TN.nd) us):=OT8.out.below b9
 have g9:=g8.trans (b9.mono (by omega))
 clear hc p0 p1 p2 p3 A8 Z8 X8 Y8 NA8 MU8 XT8 IN8 OT8 b9
 have hTd:Hid (NodesAt w9.drew 0 N a n c ts):=HT.out w9.drew g9.drew
 have XTd:Hid (NodesAt w9.drew W4.heap.size X (some ⟨gx,0,none⟩) n n ts):=XT9.out.below (Below.refl _ _).drew
 go_upto_region 12 with fail
 have lN9:N<w9.heap.size:=by omega
 have lX9:X<w9.heap.size:=by omega
 refine wp_region_noPanic ?_
 refine wp_region_held_drew (S:=(fun w':World=>w'.heap[N]?=some (.cells #[.slice a n c] 24)∧w'.heap[X]?=some (.cells #[.slice (some ⟨gx,0,none⟩) n n] 28))) (by kernel_rfl) (⟨A9,X9⟩) (fun hHeld=>?_)
 refine tY 0 (.agg #[.slice (some ⟨gx,0,none⟩) n n]) .z (by kernel_rfl) (by rfl) ?_ ‹_› ?_
 ·intro wq hSw;(try dsimp only at hSw);have y0:=cell_one_at hSw.2;go_simp
 refine tY 1 (.agg #[.slice a n c]) (.s .z) (by kernel_rfl) (by rfl) ?_ ‹_› ?_
 ·intro wq hSw;(try dsimp only at hSw);have y0:=cell_one_at hSw.1;go_simp
 try simp only[Act.put,q1,q2,q3]
 have hc:=toTree_any a n c ts w9.drew 0 N (by show N<=w9.heap.size;omega) hTd.out hn HA.out
 refine wpAnyH_ready (rs:=[2]) (by kernel_rfl) (by simp) ?_
 refine rdA (.s (.s .z)) (fun K hK=>?_) AllReadyH.nil
 go_simp
 refine (hc).mono ?_
 rintro e wa ⟨ge,rfl,hT10,hb10⟩
 have bb10:Below w9.heap.size w9 wa:=((Below.refl _ w9).drew).trans hb10
 go_wp2_with fail
 refine hK.out _ _ (⟨(bb10.block N lN9).trans A9,(bb10.block X lX9).trans X9⟩) (fun hHeld=>?_)
 clear hK K
 try simp only[Act.put,q1,q2,q3]
 have sa:=bb10.size
 have h9d:w9.drew.heap.size=w9.heap.size:=rfl
 have hc2:=eqTree_same (some ⟨gx,0,none⟩) n n (some ⟨ge,0,none⟩) n ts wa W4.heap.size X w9.drew.heap.size wa.heap.size (by omega) (Nat.le_refl _) (XTd.out.below (hb10.mono (by omega))) hT10
 refine wpAnyH_ready (rs:=[3]) (by kernel_rfl) (by simp) ?_
 refine rdA (.s (.s (.s .z))) (fun K hK=>?_) AllReadyH.nil
 go_simp
 refine (hc2).mono ?_
 rintro e wb ⟨rfl,hbb⟩
 have bbb:Below w9.heap.size w9 wb:=bb10.trans (hbb.mono sa)
 go_wp2_with fail
 refine hK.out _ _ (⟨(bbb.block N lN9).trans A9,(bbb.block X lX9).trans X9⟩) (fun hHeld=>?_)
 clear hK K
 refine tY 4 (.bool false) (.s (.s (.s (.s .z)))) (by kernel_rfl) (by rfl) ?_ ‹_› ?_
 ·intro wq hSw;go_simp
 try simp only[Act.put,q1,q2,q3]
 refine wpAnyH_done (by kernel_rfl) ?_ _
 refine NoPanic.normal ?_
 clear hHeld hc hc2 hT10 hb10 bbb h9d sa
 have b9b:Below w9.heap.size w9 wb:=(bb10.trans (hbb.mono bb10.size))
 have sb:=b9b.size
 have AB:=(b9b.block N (by omega)).trans A9
 have ZB:=(b9b.block Z (by omega)).trans Z9
 have XB:=(b9b.block X (by omega)).trans X9
 have YB:=(b9b.block Y (by omega)).trans Y9
 have NAB:Hid (NodesAt wb w2.heap.size Z oa m oc rl):=NA9.out.below (b9b.mono (by omega))
 have MUB:Hid (MarkU wb W4.heap.size X gx n ts):=MU9.out.below b9b (by omega)
 have INB:Hid (NodesAt wb W6.heap.size W8.heap.size ia m ic rl):=IN9.out.below (b9b.mono (by omega))
 have OTB:Hid (OwnT wb W6.heap.size (.slice ia m ic) (rl.map TN.nd) us):=OT9.out.below b9b
 have gb:=g9.trans (b9b.mono (by omega))
 clear A9 Z9 X9 Y9 NA9 MU9 IN9 OT9 XT9 b9b bb10 hbb hTd XTd
 have xb0:=cell_one_at XB
 have lXB:X<wb.heap.size:=by omega
 have hc:=markTree_room gx n 1 W4.heap.size X ts wb MUB.out (by omega) HM1.out
 obtain⟨km,hkm⟩:∃ km,1+mLens ts=km:=⟨_,rfl⟩
 rw[hkm] at hc
 have hd0:decide (((km:Nat):Int)<0)=false:=by simp
 clear hkm
 go_wp2_with fail
 refine hc.mono ?_
 rintro e wc ⟨rfl,hmk⟩
 have fc:=hmk.fr
 have sc:=fc.size
 have AC:=(fc.block N (by omega) (by omega)).trans AB
 have ZC:=(fc.block Z (by omega) (by omega)).trans ZB
 have YC:=(fc.block Y (by omega) (by omega)).trans YB
 have NAC:Hid (NodesAt wc w2.heap.size Z oa m oc rl):=NAB.out.keep (fun q h1 h2=>fc.block q (by omega) (by omega))
 have INC:Hid (NodesAt wc W6.heap.size W8.heap.size ia m ic rl):=INB.out.keep (fun q h1 h2=>fc.block q (by omega) (by omega))
 have OTC:Hid (OwnT wc W6.heap.size (.slice ia m ic) (rl.map TN.nd) us):=OTB.out.fr fc (fun q hq h=>by have:=HBK.out q hq;omega)
 have gc:=gb.trans (fc.below (by omega) (fun g e=>by omega))
 clear hc xb0 AB ZB XB YB NAB MUB INB OTB hmk fc
 obtain⟨p0,p1⟩:=box_twoR ZC
 obtain⟨p2,p3⟩:=box_twoR YC
 have lZC:Z<wc.heap.size:=by omega
 have lYC:Y<wc.heap.size:=by omega
 have hc:=eqTreeRes_same rb ia m ic oa oc rl wc W6.heap.size W8.heap.size w2.heap.size Z (by omega) (by omega) INC.out NAC.out
 go_wp2_with fail
 refine hc.mono ?_
 rintro e wd ⟨rfl,bd⟩
 have sd:=bd.size
 have AD:=(bd.block N (by omega)).trans AC
 have ZD:=(bd.block Z (by omega)).trans ZC
 have YD:=(bd.block Y (by omega)).trans YC
 have NAD:Hid (NodesAt wd w2.heap.size Z oa m oc rl):=NAC.out.below (bd.mono (by omega))
 have OTD:Hid (OwnT wd W6.heap.size (.slice ia m ic) (rl.map TN.nd) us):=OTC.out.below bd
 have gd:=gc.trans (bd.mono (by omega))
 clear hc p0 p1 p2 p3 AC ZC YC NAC INC OTC bd
 obtain⟨p2,p3⟩:=box_twoR YD
 have lYD:Y<wd.heap.size:=by omega
 have hml:m=(rl.map TN.nd).length:=by rw[List.length_map,HM.out]
 have HML:Hid (m=(rl.map TN.nd).length):=hml
 have hc:=markTreeRes_own rb ia m ic 1 W6.heap.size _ us wd OTD.out hml HKT.out
 obtain⟨K,hK⟩:∃ K,kT 1 (rl.map TN.nd)=K:=⟨_,rfl⟩
 have HK:Hid (kT 1 (rl.map TN.nd)=K):=hK
 have hK1:K<=1000000000:=by rw[<-hK];exact HKT.out
 rw[hK] at hc
 clear hK hml
 go_wp2_with fail
 refine hc.mono ?_
 rintro e we ⟨rfl,oE,fe⟩
 have se:=fe.size
 have hnb:∀ q,q<W6.heap.size∨q=Y->¬ BlkT (.slice ia m ic) (rl.map TN.nd).length us q:=fun q h hq=>by have:=HBK.out q hq;omega
 have ge:=gd.trans (fe.below (by omega) (fun x e=>by have:=HBK.out x e;omega))
 have AE:=(fe.block N (by omega) (hnb N (.inl (by omega)))).trans AD
 have ZE:=(fe.block Z (by omega) (hnb Z (.inl (by omega)))).trans ZD
 have YE:=(fe.block Y (by omega) (hnb Y (.inr rfl))).trans YD
 have NAE:Hid (NodesAt we w2.heap.size Z oa m oc rl):=NAD.out.keep (fun q h1 h2=>fe.block q (by omega) (hnb q (.inl (by omega))))
 clear hc p2 p3 AD ZD YD NAD OTD fe hnb
 obtain⟨p2,p3⟩:=box_twoR YE
 have lYE:Y<we.heap.size:=by omega
 have hc:=heldTreeRes_own rb ia m ic 1 W6.heap.size _ us we oE HML.out HKT.out
 rw[HK.out] at hc
 clear oE
 go_wp2_with fail
 refine hc.mono ?_
 rintro e wf ⟨rfl,bf⟩
 have sf:=bf.size
 have gf:=ge.trans (bf.mono (by omega))
 have AF:=(bf.block N (by omega)).trans AE
 have ZF:=(bf.block Z (by omega)).trans ZE
 have NAF:Hid (NodesAt wf w2.heap.size Z oa m oc rl):=NAE.out.below (bf.mono (by omega))
 clear hc p2 p3 AE ZE YE NAE bf
 have hnn:((K:Int) != (K:Int))=false:=by simp
 have xf0:=cell_one_at AF
 have lF:N<wf.heap.size:=by omega
 have hc:=toTree_any a n c ts wf 0 N (by omega) (HT.out wf gf) hn HA.out
 go_wp2_with fail
 refine hc.mono ?_
 rintro e wg ⟨gh,rfl,hTg,bg⟩
 have sg:=bg.size
 have gg:=gf.trans (bg.mono (by omega))
 have ZG:=(bg.block Z (by omega)).trans ZF
 have NAG:Hid (NodesAt wg w2.heap.size Z oa m oc rl):=NAF.out.below (bg.mono (by omega))
 clear hc xf0 AF ZF NAF bg
 have hc:=HIP.out _ wg _ _ (Nat.le_refl _) hTg
 clear hTg
 go_wp2_with fail
 refine hc.mono ?_
 rintro e wh ⟨ha,hcp,us2,rfl,oH,bh⟩
 have sh:=bh.size
 have gh':=gg.trans (bh.mono (by omega))
 have ZH:=(bh.block Z (by omega)).trans ZG
 have NAH:Hid (NodesAt wh w2.heap.size Z oa m oc rl):=NAG.out.below (bh.mono (by omega))
 clear hc ZG NAG bh
 have bi:Below wh.heap.size wh (wh.alloc (.cells #[.bool rb,.slice ha m hcp] 30)):=(Below.refl _ _).alloc (Nat.le_refl _) _
 have H7:=heap_alloc_new wh (.cells #[.bool rb,.slice ha m hcp] 30)
 have oI:=oH.below bi
 have si:=bi.size
 go_upto_region 27 with fail
 generalize wh.alloc (.cells #[.bool rb,.slice ha m hcp] 30)=WI at bi H7 oI si ⊢
 have gi:=gh'.trans (bi.mono (by omega))
 have ZI:=(bi.block Z (by omega)).trans ZH
 have NAI:Hid (NodesAt WI w2.heap.size Z oa m oc rl):=NAH.out.below (bi.mono (by omega))
 have INI:Hid (NodesAt WI wg.heap.size WI.heap.size ha m hcp rl):=oI.nodes HM.out.symm NAI.out
 have lH:=(Array.getElem?_eq_some_iff.1 H7).1
 obtain⟨p0,p1⟩:=box_twoR ZI
 obtain⟨p2,p3⟩:=box_twoR H7
 have lZI:Z<WI.heap.size:=by omega
 clear oH oI NAH ZH bi
 have hc:=eqTreeRes_same rb ha m hcp oa oc rl WI wg.heap.size WI.heap.size w2.heap.size Z (Nat.le_refl _) (by omega) INI.out NAI.out
 go_wp2_with fail
 refine hc.mono ?_
 rintro e wj ⟨rfl,bj⟩
 have gj:Hid (Below N w wj):=gi.trans (bj.mono (by omega))
 clear hc bj
 go_wp2_with fail
 go_ret
 exact⟨rfl,gj.out⟩
end Go.Proofs.YtbfggcekifaldaaGreat
