import Derived.Test.YtbfggcekifaldaaGreatHTgg
import Derived.Test.YtbfggcekifaldaaGreatHTve
import Derived.Test.YtbfggcekifaldaaGreatHTpx
import Derived.Test.YtbfggcekifaldaaGreatHTwf
import Derived.Test.YtbfggcekifaldaaGreatTxh
import Derived.Test.YtbfggcekifaldaaGreatHTwe
namespace Go.Proofs.YtbfggcekifaldaaGreat
set_option maxHeartbeats 8000000
open Go.RowKit
set_option linter.unusedVariables false
set_option linter.unusedSimpArgs false
set_option maxRecDepth 100000
theorem slim_restS {t:T} (h:Slim t) (hl:t.leaf=true) (k:Nat):Slim (t.rest k):=by
 obtain⟨h1,h2,h3⟩:=h.1 hl
 exact⟨fun _=>⟨by simp[T.rest,h1],by simp[T.rest,h2],by simp[T.rest,h3]⟩,fun e=>by simp[T.rest,hl] at e⟩
theorem rem_eq {t:T} {key:ByteArray} {i:Nat} (hl:t.leaf=true) (hsl:Slim t) (hi:posT key (t.keys.zip (t.vals.zip t.over))=i):glueT (t.fore i) ((t.rest i).rest 1)=delT key t:=by
 obtain⟨hy,h1,h2⟩:=hsl.1 hl
 rw[delT_leaf hl]
 unfold remZ
 rw[hi]
 have m1:(t.keys.zip (t.vals.zip t.over)).map (fun s=>s.1)=t.keys:=List.map_fst_zip (by simp;omega)
 have m0:(t.keys.zip (t.vals.zip t.over)).map (fun s=>s.2)=t.vals.zip t.over:=List.map_snd_zip (by simp;omega)
 have m2:(t.keys.zip (t.vals.zip t.over)).map (fun s=>s.2.1)=t.vals:=by
  have:(t.keys.zip (t.vals.zip t.over)).map (fun s=>s.2.1)=((t.keys.zip (t.vals.zip t.over)).map (fun s=>s.2)).map (fun s=>s.1):=by simp
  rw[this,m0];exact List.map_fst_zip (by omega)
 have m3:(t.keys.zip (t.vals.zip t.over)).map (fun s=>s.2.2)=t.over:=by
  have:(t.keys.zip (t.vals.zip t.over)).map (fun s=>s.2.2)=((t.keys.zip (t.vals.zip t.over)).map (fun s=>s.2)).map (fun s=>s.2):=by simp
  rw[this,m0];exact List.map_snd_zip (by omega)
 unfold leafZ glueT
 simp only[T.fore,T.rest,List.map_append,List.map_take,List.map_drop,m1,m2,m3,hl,hy,List.take_nil,List.drop_nil,List.append_nil,List.drop_drop]
theorem l3DelLeaf_any {w:World} {Q:Nat->Prop} {t:T} {v:Value} (hQ:∀ b,Q b->b<w.heap.size) (h:SN w Q t v) (hl:t.leaf=true) (hsl:Slim t) (hs:t.size<=900) (key:ByteArray) (hpos:posT key (t.keys.zip (t.vals.zip t.over))<(t.keys.zip (t.vals.zip t.over)).length∧((t.keys.zip (t.vals.zip t.over)).getD (posT key (t.keys.zip (t.vals.zip t.over))) (ByteArray.empty,ByteArray.empty,0)).1=key):Calls Tryz.prog 17 #[v,.string key] w fun e w'=>∃ v',e=.returned v'∧SN w' (fun g=>Q g∨w.heap.size<=g) (delT key t) v'∧Below w.heap.size w w':=by
 have HSN:Hid (SN w Q t v):=h
 have HQ:Hid (∀ b,Q b->b<w.heap.size):=hQ
 obtain⟨ka,kn,kc,va,vn,vc,oa,on,oc,ya,yc,css,rfl,hXQ⟩:=h
 have hX:=hXQ.nx
 clear hXQ hQ
 have HLF:Hid (t.leaf=true∧Slim t∧t.size<=900):=⟨hl,hsl,hs⟩
 obtain⟨i,hi⟩:∃ i,posT key (t.keys.zip (t.vals.zip t.over))=i:=⟨_,rfl⟩
 have HI:Hid (posT key (t.keys.zip (t.vals.zip t.over))=i):=hi
 have hzl:(t.keys.zip (t.vals.zip t.over)).length=t.keys.length:=by obtain⟨_,h1,h2⟩:=hsl.1 hl;simp;omega
 obtain⟨hy1,h1,h2⟩:=hsl.1 hl
 rw[hi,hzl] at hpos
 have HKEY:Hid (t.keys.getD i ByteArray.empty=key):=by rw[<-zipD h1 h2 hpos.1];exact hpos.2
 have HLT:Hid (∀ k,k<i->t.keys.getD k ByteArray.empty≠key):=fun k hk e=>by
  have h9:=posT_lt (key:=key) (t.keys.zip (t.vals.zip t.over)) ((t.keys.zip (t.vals.zip t.over)).getD k (ByteArray.empty,ByteArray.empty,0)) (by
   rw[hi]
   have hk2:k<(t.keys.zip (t.vals.zip t.over)).length:=by omega
   rw[List.getD_eq_getElem?_getD,List.getElem?_eq_getElem hk2,Option.getD_some]
   exact List.mem_take_iff_getElem.2 ⟨k,by omega,rfl⟩)
  rw[zipD h1 h2 (by omega),e] at h9
  exact less_irrefl _ h9
 have hin:i<t.keys.length:=hpos.1
 obtain⟨yn,hyn⟩:∃ yn,t.kids.length=yn:=⟨_,rfl⟩
 obtain⟨pg,hpg⟩:∃ pg,t.page=pg:=⟨_,rfl⟩
 rw[hl,hyn,hpg] at HSN ⊢
 obtain⟨N,hN⟩:∃ N,w.heap.size=N:=⟨_,rfl⟩
 obtain⟨W,hW⟩:∃ W,W=((w.alloc (.cells #[.bool true,.int .i64 pg,.slice ka kn kc,.slice va vn vc,.slice oa on oc,.slice ya yn yc] 47)).alloc (.cells #[.bool false,.int .i64 0,.slice none 0 0,.slice none 0 0,.slice none 0 0,.slice none 0 0] 47)):=⟨_,rfl⟩
 have al:=alloc2N w (.cells #[.bool true,.int .i64 pg,.slice ka kn kc,.slice va vn vc,.slice oa on oc,.slice ya yn yc] 47) (.cells #[.bool false,.int .i64 0,.slice none 0 0,.slice none 0 0,.slice none 0 0,.slice none 0 0] 47)
 rw[<-hW,hN] at al
 obtain⟨k0,k1,sW,hbw⟩:=al
 have hK:=(hN ▸ hX.keys).below hbw
 have hkn:kn<=1000:=by have:=hX.keys.1;have:=size_leaf hl;omega
 have HKN:Hid (t.keys.length=kn):=hX.keys.1
 have hkc:=hK.2.1
 have hkm:=hK.2.2.1
 unfold maxLen at hkm
 rw[HKN.out] at hin
 clear hX hl hsl hs hyn hpg hpos hi hzl h1 h2 hy1
 go_enter Tryz.func17,Tryz.ntmps17
 go_upto_region 1 with fail
 rw[<-hW]
 clear hW
 have lN:N<W.heap.size:=by omega
 obtain⟨p0,p1,p2,p3,p4,p5⟩:=box6g k0
 go_wp2_with fail
 go_loopw [5] (fun x wr=>∃ j:Nat,j<=i∧x=.int .i64 j∧wr=W) (fun x _=>i - (intOf x).toNat)
 case atStart=>exact⟨0,Nat.zero_le _,rfl,rfl⟩
 case round =>
  obtain⟨j,hj,rfl,rfl⟩:=hrel
  obtain⟨b,off,rfl,_,_,q0⟩:=StrsAt.at hK (i:=j) (by omega)
  by_cases hji:j=i
  ·subst hji
   rw[HKEY.out] at q0
   have hte:(key.toList == key.toList)=true:=by simp
   clear hK
   have hprt:=l3Part_any ((HSN.out).below (hN ▸ hbw)) HLF.out.2.1 j (by have:=size_leaf HLF.out.1;have:=HKN.out;omega) (by have:=HLF.out.2.2;omega)
   go_upto_region 6 with (go_at_call 31;refine hprt.mono ?_;rintro e w2 ⟨v1,v2,rfl,hA,hR,hb2⟩;obtain⟨x0,x1,x2,x3,x4,x5,x6,x7,x8,x9,x10,rfl⟩:=hA.shape;obtain⟨z0,z1,z2,z3,z4,z5,z6,z7,z8,z9,z10,rfl⟩:=hR.shape)
   have al2:=alloc2N w2 (.cells #[.bool (t.fore j).leaf,.int .i64 (t.fore j).page,.slice x0 x1 x2,.slice x3 x4 x5,.slice x6 x7 x8,.slice x9 (t.fore j).kids.length x10] 47) (.cells #[.bool (t.rest j).leaf,.int .i64 (t.rest j).page,.slice z0 z1 z2,.slice z3 z4 z5,.slice z6 z7 z8,.slice z9 (t.rest j).kids.length z10] 47)
   generalize (w2.alloc (.cells #[.bool (t.fore j).leaf,.int .i64 (t.fore j).page,.slice x0 x1 x2,.slice x3 x4 x5,.slice x6 x7 x8,.slice x9 (t.fore j).kids.length x10] 47)).alloc (.cells #[.bool (t.rest j).leaf,.int .i64 (t.rest j).page,.slice z0 z1 z2,.slice z3 z4 z5,.slice z6 z7 z8,.slice z9 (t.rest j).kids.length z10] 47)=W2 at al2 ⊢
   obtain⟨kA,kR,sW2,bW2⟩:=al2
   have hA2:SN W2 (fun g=>Q g∨N+2<=g) _ _:=(hA.below bW2).mono (fun g hg=>hg.imp id (fun h=>by omega))
   have hR2:SN W2 (fun g=>Q g∨N+2<=g) _ _:=(hR.below bW2).mono (fun g hg=>hg.imp id (fun h=>by omega))
   have hs2:=hb2.size
   obtain⟨M1,hM1⟩:∃ M1,w2.heap.size=M1:=⟨_,rfl⟩
   rw[hM1] at kA kR sW2 hs2 ⊢
   have b2:Below N w W2:=hbw.trans ((hb2.trans (bW2.mono hb2.size)).mono (by omega))
   have k1':=((hb2.trans (bW2.mono hb2.size)).block (N+1) (by omega)).trans k1
   clear hprt hA hR hb2 bW2 hM1 p0 p1 p2 p3 p4 p5 k0 k1 q0 hte
   clear w2
   have hrs:(t.rest j).size=t.size - j:=by have h8:(t.rest j).leaf=true:=HLF.out.1;rw[size_leaf h8,size_leaf HLF.out.1];simp[T.rest]
   have hprt:=l3Part_any hR2 (slim_restS HLF.out.2.1 HLF.out.1 _) 1 (by have:=size_leaf HLF.out.1;have:=HKN.out;omega) (by have:=HLF.out.2.2;omega)
   clear hrs
   obtain⟨p0,p1,p2,p3,p4,p5⟩:=box6g kR
   have lR2:M1+1<W2.heap.size:=by omega
   go_upto_region 7 with (go_at_call 31;refine hprt.mono ?_;rintro e w3 ⟨v1,v2,rfl,hA,hR,hb3⟩;obtain⟨c0,c1,c2,c3,c4,c5,c6,c7,c8,c9,c10,rfl⟩:=hA.shape;obtain⟨d0,d1,d2,d3,d4,d5,d6,d7,d8,d9,d10,rfl⟩:=hR.shape)
   have al3:=alloc2N w3 (.cells #[.bool ((t.rest j).fore 1).leaf,.int .i64 ((t.rest j).fore 1).page,.slice c0 c1 c2,.slice c3 c4 c5,.slice c6 c7 c8,.slice c9 ((t.rest j).fore 1).kids.length c10] 47) (.cells #[.bool ((t.rest j).rest 1).leaf,.int .i64 ((t.rest j).rest 1).page,.slice d0 d1 d2,.slice d3 d4 d5,.slice d6 d7 d8,.slice d9 ((t.rest j).rest 1).kids.length d10] 47)
   generalize (w3.alloc (.cells #[.bool ((t.rest j).fore 1).leaf,.int .i64 ((t.rest j).fore 1).page,.slice c0 c1 c2,.slice c3 c4 c5,.slice c6 c7 c8,.slice c9 ((t.rest j).fore 1).kids.length c10] 47)).alloc (.cells #[.bool ((t.rest j).rest 1).leaf,.int .i64 ((t.rest j).rest 1).page,.slice d0 d1 d2,.slice d3 d4 d5,.slice d6 d7 d8,.slice d9 ((t.rest j).rest 1).kids.length d10] 47)=W3 at al3 ⊢
   obtain⟨kB_,kC,sW3,bW3⟩:=al3
   have hs3:=hb3.size
   have hC3:SN W3 (fun g=>Q g∨N+2<=g) _ _:=(hR.below bW3).mono (fun g hg=>hg.elim (fun h=>h) (fun h=>.inr (by omega)))
   obtain⟨M2,hM2⟩:∃ M2,w3.heap.size=M2:=⟨_,rfl⟩
   rw[hM2] at kC sW3 hs3 ⊢
   have bb3:=hb3.trans (bW3.mono hb3.size)
   have b3:Below N w W3:=b2.trans (bb3.mono (by omega))
   have hA3:=hA2.below bb3
   have kA3:=(bb3.block M1 (by omega)).trans kA
   have k13:=(bb3.block (N+1) (by omega)).trans k1'
   clear kB_ hprt hA hR hb3 bW3 hM2 p0 p1 p2 p3 p4 p5 k1' kA kR bb3 hA2 hR2 b2
   clear w3
   have hgl:=l3Glue_any hA3 hC3 (slim_fore HLF.out.2.1 HLF.out.1 HLF.out.2.2 _) (by have h8:=slim_rest HLF.out.2.1 HLF.out.1 HLF.out.2.2 j;simp only[T.rest,List.length_drop] at h8 ⊢;omega)
   obtain⟨p0,p1,p2,p3,p4,p5⟩:=box6g kA3
   obtain⟨q0,q1,q2,q3,q4,q5⟩:=box6g kC
   have l3:M1<W3.heap.size∧M2+1<W3.heap.size∧N+1<W3.heap.size:=by omega
   go_wp2_with fail
   refine hgl.mono ?_
   rintro e w6 ⟨v6,rfl,hG6,hb6⟩
   obtain⟨e0,e1,e2,e3,e4,e5,e6,e7,e8,e9,e10,rfl⟩:=hG6.shape
   have s6:=hb6.size
   have k16:=(hb6.block (N+1) l3.2.2).trans k13
   obtain⟨X,hX⟩:∃ X,put6T w6 (N+1) (.bool (glueT (t.fore j) ((t.rest j).rest 1)).leaf) (.int .i64 (glueT (t.fore j) ((t.rest j).rest 1)).page) (.slice e0 e1 e2) (.slice e3 e4 e5) (.slice e6 e7 e8) (.slice e9 (glueT (t.fore j) ((t.rest j).rest 1)).kids.length e10)=X:=⟨_,rfl⟩
   have eX:((((((w6.setCell ⟨N+1,0,none⟩ (.bool (glueT (t.fore j) ((t.rest j).rest 1)).leaf)).setCell ⟨N+1,1,none⟩ (.int .i64 (glueT (t.fore j) ((t.rest j).rest 1)).page)).setCell ⟨N+1,2,none⟩ (.slice e0 e1 e2)).setCell ⟨N+1,3,none⟩ (.slice e3 e4 e5)).setCell ⟨N+1,4,none⟩ (.slice e6 e7 e8)).setCell ⟨N+1,5,none⟩ (.slice e9 (glueT (t.fore j) ((t.rest j).rest 1)).kids.length e10))=X:=(put6T_eq w6 (N+1) (.bool (glueT (t.fore j) ((t.rest j).rest 1)).leaf) (.int .i64 (glueT (t.fore j) ((t.rest j).rest 1)).page) (.slice e0 e1 e2) (.slice e3 e4 e5) (.slice e6 e7 e8) (.slice e9 (glueT (t.fore j) ((t.rest j).rest 1)).kids.length e10)).trans hX
   have hp:=put6T_fr w6 (N+1) (.bool (glueT (t.fore j) ((t.rest j).rest 1)).leaf) (.int .i64 (glueT (t.fore j) ((t.rest j).rest 1)).page) (.slice e0 e1 e2) (.slice e3 e4 e5) (.slice e6 e7 e8) (.slice e9 (glueT (t.fore j) ((t.rest j).rest 1)).kids.length e10)
   have hbx:=put6T_box k16 (.bool (glueT (t.fore j) ((t.rest j).rest 1)).leaf) (.int .i64 (glueT (t.fore j) ((t.rest j).rest 1)).page) (.slice e0 e1 e2) (.slice e3 e4 e5) (.slice e6 e7 e8) (.slice e9 (glueT (t.fore j) ((t.rest j).rest 1)).kids.length e10)
   rw[hX] at hp hbx
   clear hX
   have HG6:Hid (SN X (fun g=>Q g∨w.heap.size<=g) (delT key t) (.agg #[.bool (glueT (t.fore j) ((t.rest j).rest 1)).leaf,.int .i64 (glueT (t.fore j) ((t.rest j).rest 1)).page,.slice e0 e1 e2,.slice e3 e4 e5,.slice e6 e7 e8,.slice e9 (glueT (t.fore j) ((t.rest j).rest 1)).kids.length e10])):=by
    have hse:=rem_eq HLF.out.1 HLF.out.2.1 HI.out
    have h7:SN w6 (fun g=>Q g∨N+2<=g) _ _:=hG6.mono (fun g hg=>hg.elim (fun h=>h) (fun h=>.inr (by omega)))
    have h8:=(sn_fr h7 hp (fun h=>h.elim (fun h=>by have:=HQ.out _ h;omega) (fun h=>by omega))).mono (Q':=fun g=>Q g∨w.heap.size<=g) (fun g hg=>hg.imp id (fun h=>by omega))
    rw[hse] at h8
    rw[hse]
    exact h8
   have HB6:Hid (Below w.heap.size w X):=by
    show Below _ _ _
    rw[hN]
    exact (b3.trans (hb6.mono (by omega))).trans (hp.below (by have:=b3.size;omega) (fun g e=>by omega))
   obtain⟨o0,o1,o2,o3,o4,o5⟩:=box6g k16
   have fz:=thawT k16
   have lz:=(Array.getElem?_eq_some_iff.1 k16).1
   clear hgl hG6 hb6 p0 p1 p2 p3 p4 p5 q0 q1 q2 q3 q4 q5
   go_wp2_with fail
   try rw[eX]
   obtain⟨u0,u1,u2,u3,u4,u5⟩:=box6g hbx
   refine bodyPost_ret (v:=.agg #[.bool (glueT (t.fore j) ((t.rest j).rest 1)).leaf,.int .i64 (glueT (t.fore j) ((t.rest j).rest 1)).page,.slice e0 e1 e2,.slice e3 e4 e5,.slice e6 e7 e8,.slice e9 (glueT (t.fore j) ((t.rest j).rest 1)).kids.length e10]) (by simp[results,Tryz.results17,go_sem,u0,u1,u2,u3,u4,u5]) rfl ?_
   exact⟨_,rfl,HG6.out,HB6.out⟩
  ·have hne:=HLT.out j (by omega)
   have hte:=listG_ne hne
   generalize t.keys.getD j ByteArray.empty=sk at q0 hte hne
   clear hK hne
   go_wp2_with fail
   go_roundw
   case rel=>exact⟨j+1,by omega,by go_num,trivial⟩
   case measure=>simp[intOf];omega
def delR (ts:List TN) (key:ByteArray):Bool × List TN:=match topT ts with
 | none=>(false,ts)
 | some t=>if (lookT key t.slots).isSome=true then (true,(rootD key t).flat 0) else (false,ts)
theorem delR_no {ts:List TN} {key:ByteArray} (h:topT ts=none):delR ts key=(false,ts):=by unfold delR;rw[h]
theorem delR_some {ts:List TN} {key:ByteArray} {t:T} (h:topT ts=some t) (hk:HasK key t.slots):delR ts key=(true,(rootD key t).flat 0):=by
 unfold delR;rw[h];simp only[];rw[if_pos (look_has.2 hk)]
theorem delR_none {ts:List TN} {key:ByteArray} {t:T} (h:topT ts=some t) (hk:¬ HasK key t.slots):delR ts key=(false,ts):=by
 unfold delR;rw[h];simp only[];rw[if_neg (fun e=>hk (look_has.1 e))]
theorem topT_neat {ts:List TN} {t:T} (h:topT ts=some t):Neat t:=by
 obtain⟨_,⟨met,e⟩,g5,_⟩:=topT_good h
 exact gr_neat ts _ _ _ _ _ _ e ⟨true,g5⟩
theorem rem_len {key:ByteArray} {t:T} (hs:SortT t.slots) (h:HasK key t.slots):(remZ key t.slots).length<=t.slots.length:=by
 have:=remZ_len (posT_there t.slots hs h).1;omega
theorem implDel_any (ts:List TN) (a:Option Addr) (n c A B:Nat) (w:World) (hB:B<=w.heap.size) (hT:NodesAt w A B a n c ts) (hn:n<=1048576) (hb:∀ x ∈ ts,NodeLen x) (key:ByteArray) :
  Calls Tryz.prog 7 #[.agg #[.slice a n c],.string key] w fun e w'=>TreeAns w (delR ts key) e w':=by
 obtain⟨N,hN⟩:∃ N,w.heap.size=N:=⟨_,rfl⟩
 obtain⟨W,hW⟩:∃ W,W=(w.alloc (.cells #[.slice a n c] 28)).alloc (.cells #[.bool false,.slice none 0 0] 30):=⟨_,rfl⟩
 have hbw:Below w.heap.size w W:=by rw[hW];exact ((Below.refl _ _).alloc (Nat.le_refl _) _).alloc (by simp) _
 have sW:W.heap.size=N+2:=by rw[hW];simp[hN]
 have k0:W.heap[N]?=some (.cells #[.slice a n c] 28):=by
  rw[hW,<-hN]
  exact (((Below.refl (w.alloc (.cells #[.slice a n c] 28)).heap.size _).alloc (Nat.le_refl _) _).block w.heap.size (by simp)).trans (heap_alloc_new w _)
 have k1:W.heap[N+1]?=some (.cells #[.bool false,.slice none 0 0] 30):=by
  rw[hW]
  have:=heap_alloc_new (w.alloc (.cells #[.slice a n c] 28)) (.cells #[.bool false,.slice none 0 0] 30)
  rwa [show (w.alloc (.cells #[.slice a n c] 28)).heap.size=N+1 by simp[hN]] at this
 have HT:Hid (∀ V,Below N w V->NodesAt V A B a n c ts):=fun V h=>hT.below (h.mono (by omega))
 have HL:Hid (ts.length=n):=hT.1
 rw[hN] at hbw
 have hgrow:=grow_any ts a n c A B W (by omega) (HT.out W hbw)
 have x0:W.cell? ⟨N,0,none⟩=some (.slice a n c):=by simp[World.cell?,k0]
 have l0:N<W.heap.size:=by omega
 have HCP:Hid (∀ V,Below N w V->Calls Tryz.prog 21 #[.agg #[.slice a n c]] V fun e w'=>∃ oa oc us,e=.returned (.agg #[.slice oa n oc])∧OwnT w' V.heap.size (.slice oa n oc) (ts.map TN.nd) us∧Below V.heap.size V w'):=fun V h=>copyTree_any ts a n c A B V (by have:=h.size;omega) (HT.out V h) hn hb
 have HNO:Hid (∀ V w7 oa oc us,Below N w V->V.heap[N+1]?=some (.cells #[.bool false,.slice none 0 0] 30)->OwnT w7 V.heap.size (.slice oa n oc) (ts.map TN.nd) us->Below V.heap.size V w7->delR ts key=(false,ts)->N+2<=V.heap.size->(w7.heap[N+1]?=some (.cells #[.bool false,.slice none 0 0] 30))∧TreeAns w (delR ts key) (.returned (.agg #[.bool false,.slice oa n oc])) ((w7.setCell ⟨N+1,0,none⟩ (.bool false)).setCell ⟨N+1,1,none⟩ (.slice oa n oc))∧((w7.setCell ⟨N+1,0,none⟩ (.bool false)).setCell ⟨N+1,1,none⟩ (.slice oa n oc)).heap[N+1]?=some (.cells #[.bool false,.slice oa n oc] 30)):=by
  intro V w7 oa oc us hV hb1 hO7 hb7 hP hs
  have k17:=(hb7.block (N+1) (by omega)).trans hb1
  have bw7:Below w.heap.size w w7:=by rw[hN];exact hV.trans (hb7.mono (by omega))
  obtain⟨O8,B8,R8⟩:=treeAns_lay (w:=w) (R:=N+1) (by omega) k17 hO7 (by omega) bw7 false
  refine⟨k17,?_,R8⟩
  rw[hP]
  refine⟨oa,oc,us,?_,?_,B8⟩
  ·show _=Ending.returned (.agg #[.bool false,.slice oa ts.length oc])
   rw[HL.out]
  ·show OwnT _ _ (.slice oa ts.length oc) _ _
   rw[HL.out];exact O8
 clear hT hb
 go_enter Tryz.func7,Tryz.ntmps7
 go_upto_region 1 with fail
 rw[<-hW]
 clear hW
 go_wp2_with fail
 refine hgrow.mono ?_
 rintro e w1 ⟨hno,hyes,hb1⟩
 have s1:=hb1.size
 have k01:=(hb1.block N (by omega)).trans k0
 have k11:=(hb1.block (N+1) (by omega)).trans k1
 have bw1:Below N w w1:=hbw.trans (hb1.mono (by omega))
 clear hgrow x0 k0 k1
 have x0:w1.cell? ⟨N,0,none⟩=some (.slice a n c):=by simp[World.cell?,k01]
 have l0:N<w1.heap.size:=by omega
 by_cases hok:ImplOk ts
 ·obtain⟨t,met,u,hgr,hkys,hasc,rfl,hGM⟩:=hyes hok
  have htop:=topT_yes hok hgr
  obtain⟨_,_,g5,g3,g6,gn,gso,gky⟩:=topT_good htop
  have hneat:=topT_neat htop
  obtain⟨ty,v,rfl⟩:=hGM.shape
  clear hno hyes
  obtain⟨hna,f,r,hme,hcf,hcall⟩:=delOk_all key t true (by omega) g5 g6 hneat gso w1 _ ty v hGM (fun b hb=>hb.2)
  have hcf2:=hcf (.string key)
  have HTOP:Hid (topT ts=some t):=htop
  have hsl:=slots_len t ⟨true,g5⟩
  have HRD:Hid (HasK key t.slots->(rootD key t).whole=true∧Shape (rootD key t)∧(rootD key t).nodes<=10000000∧((delT key t).leaf=false->(delT key t).kids.length<=1000)):=fun hk=>by
   obtain⟨d1,d2,d3,d4,d5,d6⟩:=rootD_ok g5 hneat g6 gso gky hk
   have hnn:=nodes_root d1 d2
   rw[d4] at hnn
   have h5:=rem_len gso hk
   have h7:=(del_is key t true g5 hneat g6 gso hk).soft.size.2
   exact⟨good_whole _ true d1 d2.shape,d2.shape,by omega,fun hl=>by simp only[T.size,hl] at h7;simp at h7;omega⟩
  clear hcf htop hgr hkys hasc hGM g5 g3 g6 gn gso gky hok hneat hsl
  go_wp2_with fail
  refine hcall.mono ?_
  rintro e V hans
  rcases hans with ⟨rfl,hhas,⟨Pm,hgm,hpm⟩,hfm⟩ | ⟨rfl,hhas,hbV⟩
  ·have sV:=hfm.size
   have bwV:Below N w V:=bw1.trans (hfm.below (by omega) (fun g e=>by have:=e.1;omega))
   have k1V:=(hfm.block (N+1) (by omega) (fun e=>by have:=e.1;omega)).trans k11
   obtain⟨r1,r2,r3,r4⟩:=HRD.out hhas
   have hgw:=giveWay_any hgm r4
   have HR:Hid ((rootD key t).whole=true∧Shape (rootD key t)∧(rootD key t).nodes<=10000000∧delR ts key=(true,(rootD key t).flat 0)):=⟨r1,r2,r3,delR_some HTOP.out hhas⟩
   have HW9:Hid (wayT (delT key t)=rootD key t):=rfl
   clear hcall hna hme hcf2 hfm k01 k11 x0 l0 hb1 HRD hgm r1 r2 r3 r4 HNO HCP
   go_wp2_with fail
   refine hgw.mono ?_
   rintro e V2 ⟨u2,rfl,e2,P2,hg2,hp2⟩
   obtain rfl:V=V2:=e2.symm
   rw[HW9.out] at hg2
   obtain⟨ty2,v2,rfl⟩:=hg2.shape
   have htold:=told_any V HR.out.1 (GM.see _ _ _ hg2) (fun b hb=>(hpm b (hp2 b hb)).2) HR.out.2.2.1
   obtain⟨m,hm⟩:∃ m,(rootD key t).nodes=m:=⟨_,rfl⟩
   have HM:Hid ((rootD key t).nodes=m):=hm
   rw[hm] at htold
   clear hgw hg2 hp2 hpm hm
   go_wp2_with fail
   refine htold.mono ?_
   rintro e w5 ⟨oa,oc,us,rfl,hO5,hb5⟩
   have s5:=hb5.size
   have k15:=(hb5.block (N+1) (by omega)).trans k1V
   have bw5:Below w.heap.size w w5:=by rw[hN];exact bwV.trans (hb5.mono (by omega))
   obtain⟨q0,q1⟩:=box_twoR k15
   have f7:=thawT k15
   have l7:N+1<w5.heap.size:=by omega
   obtain⟨O8,B8,R8⟩:=treeAns_lay (w:=w) (R:=N+1) (by omega) k15 hO5 (by omega) bw5 true
   obtain⟨r0,r1⟩:=box_twoR R8
   have HFIN:Hid (TreeAns w (delR ts key) (.returned (.agg #[.bool true,.slice oa m oc])) ((w5.setCell ⟨N+1,0,none⟩ (.bool true)).setCell ⟨N+1,1,none⟩ (.slice oa m oc))):=by
    rw[HR.out.2.2.2]
    have hfl:((rootD key t).flat 0).length=m:=by rw[flat_len _ HR.out.2.1,HM.out]
    refine⟨oa,oc,us,?_,?_,B8⟩
    ·show _=Ending.returned (.agg #[.bool true,.slice oa ((rootD key t).flat 0).length oc])
     rw[hfl]
    ·show OwnT _ _ (.slice oa ((rootD key t).flat 0).length oc) _ _
     rw[hfl];exact O8
   clear htold hO5 O8 B8 R8 hb5 bw5 k15 k1V
   go_wp2_with fail
   exact bodyPost_ret (v:=.agg #[.bool true,.slice oa m oc]) (by simp[results,Tryz.results7,go_sem,r0,r1]) rfl HFIN.out
  ·have sV:=hbV.size
   have bwV:Below N w V:=bw1.trans (hbV.mono (by omega))
   have k0V:=(hbV.block N (by omega)).trans k01
   have k1V:=(hbV.block (N+1) (by omega)).trans k11
   have x0V:V.cell? ⟨N,0,none⟩=some (.slice a n c):=by simp[World.cell?,k0V]
   have l0V:N<V.heap.size:=by omega
   have HP:Hid (delR ts key=(false,ts)):=delR_none HTOP.out hhas
   have hcp:=HCP.out V bwV
   clear hcall hna hme hcf2 hbV k01 k11 x0 l0 hb1 HRD hhas HCP k0V
   go_wp2_with fail
   refine hcp.mono ?_
   rintro e w7 ⟨oa,oc,us,rfl,hO7,hb7⟩
   obtain⟨k17,hans,R8⟩:=HNO.out V w7 oa oc us bwV k1V hO7 hb7 HP.out (by omega)
   have s7:=hb7.size
   obtain⟨q0,q1⟩:=box_twoR k17
   have f7:=thawT k17
   have l7:N+1<w7.heap.size:=by omega
   obtain⟨r0,r1⟩:=box_twoR R8
   have HFIN:Hid (TreeAns w (delR ts key) (.returned (.agg #[.bool false,.slice oa n oc])) ((w7.setCell ⟨N+1,0,none⟩ (.bool false)).setCell ⟨N+1,1,none⟩ (.slice oa n oc))):=hans
   clear hcp hO7 R8 hb7 k17 hans HNO
   go_wp2_with fail
   exact bodyPost_ret (v:=.agg #[.bool false,.slice oa n oc]) (by simp[results,Tryz.results7,go_sem,r0,r1]) rfl HFIN.out
 ·obtain rfl:=hno hok
  have HP:Hid (delR ts key=(false,ts)):=delR_no (topT_no hok)
  clear hyes hok
  have hcp:=HCP.out w1 bw1
  clear HCP
  go_wp2_with fail
  refine hcp.mono ?_
  rintro e w7 ⟨oa,oc,us,rfl,hO7,hb7⟩
  obtain⟨k17,hans,R8⟩:=HNO.out w1 w7 oa oc us bw1 k11 hO7 hb7 HP.out (by omega)
  have s7:=hb7.size
  obtain⟨q0,q1⟩:=box_twoR k17
  have f7:=thawT k17
  have l7:N+1<w7.heap.size:=by omega
  obtain⟨r0,r1⟩:=box_twoR R8
  have HFIN:Hid (TreeAns w (delR ts key) (.returned (.agg #[.bool false,.slice oa n oc])) ((w7.setCell ⟨N+1,0,none⟩ (.bool false)).setCell ⟨N+1,1,none⟩ (.slice oa n oc))):=hans
  clear hcp hO7 R8 hb7 k17 hans HNO
  go_wp2_with fail
  exact bodyPost_ret (v:=.agg #[.bool false,.slice oa n oc]) (by simp[results,Tryz.results7,go_sem,r0,r1]) rfl HFIN.out
end Go.Proofs.YtbfggcekifaldaaGreat
