import Derived.Test.YtbfggcekifaldaaGreatHTgg
import Derived.Test.YtbfggcekifaldaaGreatHTvi
import Derived.Test.YtbfggcekifaldaaGreatTfc
namespace Go.Proofs.YtbfggcekifaldaaGreat
set_option maxHeartbeats 2000000
open Go.RowKit
set_option linter.unusedVariables false
set_option linter.unusedSimpArgs false
set_option maxRecDepth 100000
def PutAns (w:World) (P:Nat->Prop) (t:T) (u:Value) (e:Ending) (w':World):Prop:=e=.returned (.tuple #[])∧(∃ P':Nat->Prop,GM w' P' t u∧∀ b,P' b->(P b∨w.heap.size<=b)∧b<w'.heap.size)∧Fr P w w'
theorem fr_tight {P:Nat->Prop} {w w':World} (h:Fr (fun b=>P b∨w.heap.size<=b) w w'):Fr P w w':=⟨h.os,h.tape,h.output,h.size,fun k hk hn=>h.block k hk (fun e=>by rcases e with e | e;exact hn e;omega)⟩
theorem soil_any {w:World} {L:Nat} {p:Int} {s:Value} {ty:TypeId} (h:w.heap[L]?=some (.cells #[.int .i64 p,s] ty)):Calls Tryz.prog 95 #[.pointer (some ⟨L,0,none⟩)] w fun e w'=>e=.returned (.tuple #[])∧w'=w.setCell ⟨L,0,none⟩ (.int .i64 0):=by
 obtain⟨c0,c1⟩:=box_twoG h
 have hlt:L<w.heap.size:=(Array.getElem?_eq_some_iff.1 h).1
 have ff:=thawT h
 clear h
 go_enter Tryz.func95,Tryz.ntmps95
 go_wp2
 go_end0
 exact⟨rfl,rfl⟩
theorem leafPut_fin {w w5:World} {P:Nat->Prop} {L c:Nat} {a:Option Addr} {zs:List (ByteArray × ByteArray × Int)} (hF:Fr (fun b=>P b∨w.heap.size<=b) w w5) (hbox:w5.heap[L]?=some (.cells #[.int .i64 0,.slice a zs.length c] 121)) (hrow:w5.ownsRow 0 111 3 (.slice a zs.length c) zs.length (rowsOf slCells zs)) (hPL:P L) (hblk:∀ g,(Value.slice a zs.length c).ownBlock=some g->(P g∨w.heap.size<=g)∧g≠L) :
  PutAns w P (leafZ zs) (.iface 119 (.pointer (some ⟨L,0,none⟩))) (.returned (.tuple #[])) w5:=by
 have hlt:L<w5.heap.size:=(Array.getElem?_eq_some_iff.1 hbox).1
 refine⟨rfl,⟨fun b=>(P b∨w.heap.size<=b)∧b<w5.heap.size,?_,fun b hb=>hb⟩,fr_tight hF⟩
 refine GML.is (a:=a) (n:=zs.length) (c:=c) ⟨⟨.inl hPL,hlt⟩,hbox,?_,fun g hg=>⟨⟨(hblk g hg).1,(hrow.lt g hg).2⟩,(hblk g hg).2⟩,by simp[leafZ]⟩ rfl
 rw[leafZ_zip]
 exact hrow
theorem rowsOf_takeG {α:Type} {m:Nat} {cs:α->List Value} (hm:∀ x,(cs x).length=m):∀ (xs:List α) (i:Nat),rowsOf cs (xs.take i)=(rowsOf cs xs).take (i*m)
 | [],i=>by simp[rowsOf]
 | x::r,0=>by simp[rowsOf]
 | x::r,i+1=>by
  have ih:=rowsOf_takeG hm r i
  have e:rowsOf cs (x::r)=cs x++rowsOf cs r:=rfl
  have e2:rowsOf cs ((x::r).take (i+1))=cs x++rowsOf cs (r.take i):=rfl
  have h1:(cs x).take ((i+1)*m)=cs x:=List.take_of_length_le (by rw[hm];exact Nat.le_mul_of_pos_left m (Nat.succ_pos i))
  rw[e,e2,ih,List.take_append,h1,hm,Nat.succ_mul,Nat.add_sub_cancel]
theorem rowsOf_dropG {α:Type} {m:Nat} {cs:α->List Value} (hm:∀ x,(cs x).length=m):∀ (xs:List α) (i:Nat),rowsOf cs (xs.drop i)=(rowsOf cs xs).drop (i*m)
 | [],i=>by simp[rowsOf]
 | x::r,0=>by simp
 | x::r,i+1=>by
  have ih:=rowsOf_dropG hm r i
  have e:rowsOf cs (x::r)=cs x++rowsOf cs r:=rfl
  have e2:rowsOf cs ((x::r).drop (i+1))=rowsOf cs (r.drop i):=rfl
  have h1:(cs x).drop ((i+1)*m)=[]:=List.drop_of_length_le (by rw[hm];exact Nat.le_mul_of_pos_left m (Nat.succ_pos i))
  rw[e,e2,ih,List.drop_append,h1,hm,Nat.succ_mul,Nat.add_sub_cancel,List.nil_append]
theorem slots_one (zs:List (ByteArray × ByteArray × Int)):∀ u ∈ rowsOf slCells zs,u.oneCell'=true:=by
 intro u hu
 unfold rowsOf at hu
 obtain⟨s,_,hu⟩:=List.mem_flatMap.1 hu
 simp[slCells] at hu
 rcases hu with rfl | rfl | rfl<;>rfl
def put3at (w:World) (b o:Nat) (u0 u1 u2:Value):World:=((w.setCell ⟨b,o,none⟩ u0).setCell ⟨b,o+1,none⟩ u1).setCell ⟨b,o+2,none⟩ u2
theorem emptyS (w:World):(w.alloc (.cells #[] 111)).ownsRow w.heap.size 111 3 (.slice (some ⟨w.heap.size,0,none⟩) 0 0) 0 []:=by
 have:=World.ownsRow_made w #[] (base:=w.heap.size) (e:=111) (size:=3) 0 (by simp) (by unfold maxLen;omega) (by simp)
 simpa using this
theorem cloneS_any (b off n c:Nat) (xs:List Value) (w:World) (hx:xs.length=n*3) (hn:0<n) (hm:n<=1048576) (hb:b<w.heap.size) (h1:∀ u ∈ xs,u.oneCell'=true) (hc:∀ j u,xs[j]?=some u->w.cell? ((⟨b,off,none⟩:Addr).add j)=some u) :
  Calls Tryz.prog 105 #[.slice (some ⟨b,off,none⟩) n c] w fun e w'=>∃ g vc,e=.returned (.slice (some ⟨g,0,none⟩) n vc)∧w'.ownsRow w.heap.size 111 3 (.slice (some ⟨g,0,none⟩) n vc) n xs∧Below w.heap.size w w':=by
 have hq:∀ (w:World) (a:Option Addr) (n c n' c':Nat),(binOp .eql 89 (.slice a n c) (.slice none n' c')).run Tryz.prog w=.ok (.bool a.isNone) w:=fun w a n c n' c'=>Lib.run_eql_slice_nil w _ _ a n c n' c' Tryz.underlying89
 obtain⟨i1,hi1,hy0,hy1,hy2⟩:=info_parts info_slot
 have hb2:Below w.heap.size w (w.alloc (.cells #[] 111)):=(Below.refl _ _).alloc (Nat.le_refl _) _
 have hR2:=emptyS w
 have hc2:∀ j u,xs[j]?=some u->(w.alloc (.cells #[] 111)).cell? ((⟨b,off,none⟩:Addr).add j)=some u:=fun j u hj=>(hb2.cell (p:=(⟨b,off,none⟩:Addr).add j) (by unfold Addr.add;split<;>exact hb)).trans (hc j u hj)
 go_enter Tryz.func105,Tryz.ntmps105
 go_wp2_with (at_builtin;refine wpList_append_ownD _ rfl _ _ 89 rfl w.heap.size 111 i1 _ 3 40 Tryz.underlying89 hi1 hy0 hy1 hy2 rfl (by decide) _ _ _ rfl hR2 ⟨b,off,none⟩ n c xs rfl (by omega) hc2 h1 (by unfold maxLen;omega) (by omega) hb2.size ?_;intro v' w5 hown' hgr' hat';obtain⟨n',rfl⟩:∃ n',n=n'+1:=⟨n - 1,by omega⟩;rw[Nat.zero_add,List.nil_append] at hown';obtain⟨g5,e5,rfl⟩:=rowSuccT hown')
 have hb3:=hb2.grown hgr' hb2.size (fun g e=>(hR2.lt g e).1)
 go_ret
 exact⟨g5,e5,rfl,hown',hb3⟩
theorem own_some {g n c y:Nat} (h:(Value.slice (some ⟨g,0,none⟩) n c).ownBlock=some y):g=y:=by simpa[Value.ownBlock] using h
theorem ta_ll (v:Value) (W:World):(Instr.typeAssert (.iface 119 v) 54 119 true).run Tryz.prog W=.ok (.tuple #[v,.bool true]) W:=by kernel_rfl
theorem ta_il (v:Value) (W:World):(Instr.typeAssert (.iface 94 v) 54 119 true).run Tryz.prog W=.ok (.tuple #[.pointer none,.bool false]) W:=by kernel_rfl
theorem ta_ii (v:Value) (W:World):(Instr.typeAssert (.iface 94 v) 54 94 true).run Tryz.prog W=.ok (.tuple #[v,.bool true]) W:=by kernel_rfl
def PartAns (w:World) (P:Nat->Prop) (t:T) (k:Nat) (u:Value) (e:Ending) (w':World):Prop:=∃ u2,e=.returned u2∧(∃ P1 P2:Nat->Prop,GM w' P1 (t.fore k) u∧GM w' P2 (t.rest k) u2∧(∀ b,P1 b->¬ P2 b)∧∀ b,P1 b∨P2 b->(P b∨w.heap.size<=b)∧b<w'.heap.size)∧Fr P w w'
theorem owns_fore {w:World} {base e size b n c k:Nat} {xs:List Value} (h:w.ownsRow base e size (.slice (some ⟨b,0,none⟩) n c) n xs) (hk:k<=n):w.ownsRow base e size (.slice (some ⟨b,0,none⟩) k c) k (xs.take (k*size)):=by
 have hxl:=h.1
 have hks:k*size<=n*size:=Nat.mul_le_mul_right size hk
 rcases h.2 with ⟨e,_⟩ | ⟨g,cap,cur,e,hb,hg,hnc,hcm,hcs,htk⟩
 ·cases e
 ·simp only[Value.slice.injEq,Option.some.injEq,Addr.mk.injEq] at e
  obtain⟨⟨rfl,_⟩,_,rfl⟩:=e
  refine⟨by rw[List.length_take];omega,.inr ⟨b,c,cur,rfl,hb,hg,by omega,hcm,hcs,?_⟩⟩
  rw[<-htk,List.take_take,Nat.min_eq_left hks]
theorem zip_take3 (k:Nat) (a:List ByteArray) (b:List ByteArray) (c:List Int):(a.take k).zip ((b.take k).zip (c.take k))=(a.zip (b.zip c)).take k:=by
 simp[List.zip,List.take_zipWith]
theorem zip_drop3 (k:Nat) (a:List ByteArray) (b:List ByteArray) (c:List Int):(a.drop k).zip ((b.drop k).zip (c.drop k))=(a.zip (b.zip c)).drop k:=by
 simp[List.zip,List.drop_zipWith]
theorem partLeaf_any {w:World} {P:Nat->Prop} {t:T} {L:Nat} {a:Option Addr} {n c:Nat} (h:GML w P t L a n c) (hl:t.leaf=true) (k:Nat) (hk0:0<k) (hkn:k<n) (hn:n<=1000) (hP:∀ b,P b->b<w.heap.size) :
  Calls Tryz.prog 104 #[.iface 119 (.pointer (some ⟨L,0,none⟩)),.int .i64 k] w fun e w'=>PartAns w P t k (.iface 119 (.pointer (some ⟨L,0,none⟩))) e w':=by
 obtain⟨N,hN⟩:∃ N,w.heap.size=N:=⟨_,rfl⟩
 obtain⟨zs,hzs⟩:∃ zs,t.keys.zip (t.vals.zip t.over)=zs:=⟨_,rfl⟩
 have hrow0:=h.row
 rw[hzs] at hrow0
 have hzl:zs.length=n:=by have:=hrow0.1;rw[rowsOf_length sl3] at this;omega
 have hLN:L<N:=by have:=hP L h.at';omega
 rcases hrow0.2 with ⟨_,e⟩ | ⟨b,cap,cur,e,_,hg,hnc,hcm,hcs,htk⟩
 ·omega
 simp only[Value.slice.injEq] at e
 obtain⟨rfl,_,rfl⟩:=e
 obtain⟨hPb,hbL⟩:=h.blk b rfl
 have hbN:=hP b hPb
 have hPL:=h.at'
 have hbox0:=h.box
 obtain⟨pg,hpg⟩:∃ pg,t.page=pg:=⟨_,rfl⟩
 rw[hpg] at hbox0
 have hsoil:=soil_any hbox0
 have HLEN:Hid (n=t.keys.length∧t.keys.zip (t.vals.zip t.over)=zs):=⟨h.len,hzs⟩
 have hm1:∀ w,(nilAhead 261 119 (.pointer (some ⟨L,0,none⟩)) "loop.example/s02098/impl.soil").run Tryz.prog w=.ok (some false) w:=fun w=>by kernel_rfl
 have hm2:∀ w,(method 261 119 (.pointer (some ⟨L,0,none⟩)) "loop.example/s02098/impl.soil").run Tryz.prog w=.ok (95,.pointer (some ⟨L,0,none⟩)) w:=fun w=>by kernel_rfl
 clear hzs
 have ta1:=ta_ll
 go_enter Tryz.func104,Tryz.ntmps104
 go_wp2_with fail
 refine hsoil.mono ?_
 rintro e W1 ⟨rfl,hW1⟩
 have f1:=fr_setT w L 0 (.int .i64 0)
 rw[<-hW1] at f1
 have hbox1:W1.heap[L]?=some (.cells #[.int .i64 0,.slice (some ⟨b,0,none⟩) n c] 121):=by rw[hW1];simpa using heap_setT hbox0 0 (.int .i64 0)
 have hrow1:=owns_fr hrow0 f1 (fun g hg e=>by cases hg;exact hbL e)
 have s1:=f1.size
 have F1:Fr (fun b=>P b∨N<=b) w W1:=f1.weak (fun g e=>.inl (by rw[e];exact hPL))
 have hcl:=cloneS_any b (k*3) (n - k) (c - k) ((rowsOf slCells zs).drop (k*3)) W1 (by rw[List.length_drop,hrow1.1];omega) (by omega) (by omega) (by omega) (fun u hu=>slots_one zs u (List.mem_of_mem_drop hu)) (fun j u hj=>by
  rw[List.getElem?_drop] at hj
  have hjl:=(List.getElem?_eq_some_iff.1 hj).1
  rw[hrow1.1] at hjl
  have e:(⟨b,k*3,none⟩:Addr).add j=⟨b,k*3+j,none⟩:=by simp[Addr.add]
  rw[e,hrow1.cellAt (k*3+j) hjl]
  exact hj)
 obtain⟨c0,c1⟩:=box_twoG hbox1
 have l1:L<W1.heap.size:=by omega
 have hck:¬ (c=k):=by omega
 have hkn':k<=n:=by omega
 clear hsoil hW1 f1 hbox0 hrow0 hg htk hcs
 go_wp2_with fail
 refine hcl.mono ?_
 rintro e W2 ⟨g,vc,rfl,hr2,hb2⟩
 have hs2:=hb2.size
 have hgl:=hr2.lt g rfl
 have ab:=(Below.refl W2.heap.size W2).alloc (Nat.le_refl _) (.cells #[.int .i64 0,.slice (some ⟨g,0,none⟩) (n - k) vc] 121)
 have kb:=heap_alloc_new W2 (.cells #[.int .i64 0,.slice (some ⟨g,0,none⟩) (n - k) vc] 121)
 have hbox3:=(ab.block L (by omega)).trans ((hb2.block L (by omega)).trans hbox1)
 have hrow3:=owns_below (owns_below hrow1 hb2) ab
 have hr3:=owns_below hr2 ab
 obtain⟨M,hM⟩:∃ M,W2.heap.size=M:=⟨_,rfl⟩
 have hs3:(W2.alloc (.cells #[.int .i64 0,.slice (some ⟨g,0,none⟩) (n - k) vc] 121)).heap.size=M+1:=by simp[hM]
 rw[hM] at kb
 have F3:Fr (fun b=>P b∨N<=b) w (W2.alloc (.cells #[.int .i64 0,.slice (some ⟨g,0,none⟩) (n - k) vc] 121)):=(F1.trans (Fr.of_below hb2)).trans (Fr.of_below ab)
 go_upto_region 6 with fail
 generalize W2.alloc (.cells #[.int .i64 0,.slice (some ⟨g,0,none⟩) (n - k) vc] 121)=W3 at *
 clear hcl c0 c1 hb2 ab hbox1 hrow1 hr2 F1
 obtain⟨c0,c1⟩:=box_twoG hbox3
 have ff:=thawT hbox3
 have l3:L<W3.heap.size:=by omega
 have HFIN:Hid (PartAns w P t k (.iface 119 (.pointer (some ⟨L,0,none⟩))) (.returned (.iface 119 (.pointer (some ⟨M,0,none⟩)))) (W3.setCell ⟨L,1,none⟩ (.slice (some ⟨b,0,none⟩) k c))):=by
  have hst:=fr_setT W3 L 1 (.slice (some ⟨b,0,none⟩) k c)
  have s5:(W3.setCell ⟨L,1,none⟩ (.slice (some ⟨b,0,none⟩) k c)).heap.size=W3.heap.size:=by simp[World.setCell]
  have hbox5:(W3.setCell ⟨L,1,none⟩ (.slice (some ⟨b,0,none⟩) k c)).heap[L]?=some (.cells #[.int .i64 0,.slice (some ⟨b,0,none⟩) k c] 121):=by simpa using heap_setT hbox3 1 (.slice (some ⟨b,0,none⟩) k c)
  refine⟨_,rfl,⟨fun x=>x=L∨x=b,fun x=>x=M∨x=g,?_,?_,fun x h1 h2=>by omega,fun x hx=>?_⟩,?_⟩
  ·refine GML.is (a:=some ⟨b,0,none⟩) (n:=k) (c:=c) ⟨.inl rfl,hbox5,?_,fun y hy=>by cases hy;exact⟨.inr rfl,hbL⟩,by show k=(t.keys.take k).length;rw[List.length_take,<-HLEN.out.1];omega⟩ hl
   show World.ownsRow _ 0 _ 3 _ k (rowsOf slCells ((t.keys.take k).zip ((t.vals.take k).zip (t.over.take k))))
   rw[zip_take3,HLEN.out.2,rowsOf_takeG sl3]
   exact owns_fr (owns_fore hrow3 (by omega)) hst (fun y hy e=>by cases hy;exact hbL e)
  ·refine GML.is (a:=some ⟨g,0,none⟩) (n:=n - k) (c:=vc) ⟨.inl rfl,(hst.block M (by omega) (by omega)).trans kb,?_,fun y hy=>by cases hy;exact⟨.inr rfl,by show g≠M;omega⟩,by show n - k=(t.keys.drop k).length;rw[List.length_drop,<-HLEN.out.1]⟩ hl
   show World.ownsRow _ 0 _ 3 _ (n - k) (rowsOf slCells ((t.keys.drop k).zip ((t.vals.drop k).zip (t.over.drop k))))
   rw[zip_drop3,HLEN.out.2,rowsOf_dropG sl3]
   exact owns_fr (owns_base hr3 (Nat.zero_le _)) hst (fun y hy e=>by have:=own_some hy;omega)
  ·rw[s5]
   rcases hx with (rfl | rfl) | (rfl | rfl)
   ·exact⟨.inl hPL,by omega⟩
   ·exact⟨.inl hPb,by omega⟩
   ·exact⟨.inr (by omega),by omega⟩
   ·exact⟨.inr (by omega),by omega⟩
  ·refine fr_tight ?_
   rw[hN]
   exact F3.trans (hst.weak (fun y e=>.inl (by rw[e];exact hPL)))
 clear hbox3 hrow3 hr3 kb F3 hgl
 go_wp2_with fail
 go_ret
 exact HFIN.out
theorem partInner_any {w:World} {P:Nat->Prop} {t:T} {L:Nat} {a:Option Addr} {n c:Nat} {ul:List Value} {Q:Nat->Nat->Prop} (h:GMI w P t L a n c ul Q) (hl:t.leaf=false) (k:Nat) (hk0:0<k) (hkn:k<n) (hn:n<=1000) (hP:∀ b,P b->b<w.heap.size) (h1:∀ u ∈ ul,u.oneCell'=true) :
  Calls Tryz.prog 104 #[.iface 94 (.pointer (some ⟨L,0,none⟩)),.int .i64 k] w fun e w'=>PartAns w P t k (.iface 94 (.pointer (some ⟨L,0,none⟩))) e w':=by
 obtain⟨N,hN⟩:∃ N,w.heap.size=N:=⟨_,rfl⟩
 have hrow0:=h.row
 have hul:ul.length=n:=by have:=hrow0.1;omega
 have hLN:L<N:=by have:=hP L h.at';omega
 rcases hrow0.2 with ⟨_,e⟩ | ⟨b,cap,cur,e,_,hg,hnc,hcm,hcs,htk⟩
 ·omega
 simp only[Value.slice.injEq] at e
 obtain⟨rfl,_,rfl⟩:=e
 obtain⟨hPb,hbL⟩:=h.blk b rfl
 have hbN:=hP b hPb
 have hPL:=h.at'
 have hbox0:=h.box
 obtain⟨pg,hpg⟩:∃ pg,t.page=pg:=⟨_,rfl⟩
 rw[hpg] at hbox0
 have hsoil:=soil_any hbox0
 have HH:Hid (GMI w P t L (some ⟨b,0,none⟩) n c ul Q):=h
 have hm1:∀ w,(nilAhead 261 94 (.pointer (some ⟨L,0,none⟩)) "loop.example/s02098/impl.soil").run Tryz.prog w=.ok (some false) w:=fun w=>by kernel_rfl
 have hm2:∀ w,(method 261 94 (.pointer (some ⟨L,0,none⟩)) "loop.example/s02098/impl.soil").run Tryz.prog w=.ok (95,.pointer (some ⟨L,0,none⟩)) w:=fun w=>by kernel_rfl
 clear h
 have ta1:=ta_il
 have ta2:=ta_ii
 go_enter Tryz.func104,Tryz.ntmps104
 go_wp2_with fail
 refine hsoil.mono ?_
 rintro e W1 ⟨rfl,hW1⟩
 have f1:=fr_setT w L 0 (.int .i64 0)
 rw[<-hW1] at f1
 have hbox1:W1.heap[L]?=some (.cells #[.int .i64 0,.slice (some ⟨b,0,none⟩) n c] 100):=by rw[hW1];simpa using heap_setT hbox0 0 (.int .i64 0)
 have hrow1:=owns_fr hrow0 f1 (fun g hg e=>by cases hg;exact hbL e)
 have s1:=f1.size
 have F1:Fr (fun b=>b=L∨N<=b) w W1:=f1.weak (fun g e=>.inl e)
 have hcl:=cloneN_any b k (n - k) (c - k) (ul.drop k) W1 (by rw[List.length_drop,hul]) (by omega) (by omega) (by omega) (fun u hu=>h1 u (List.mem_of_mem_drop hu)) (fun j u hj=>by
  rw[List.getElem?_drop] at hj
  have hjl:=(List.getElem?_eq_some_iff.1 hj).1
  have e:(⟨b,k,none⟩:Addr).add j=⟨b,k+j,none⟩:=by simp[Addr.add]
  rw[e,hrow1.cellAt (k+j) (by omega)]
  exact hj)
 obtain⟨c0,c1⟩:=box_twoG hbox1
 have l1:L<W1.heap.size:=by omega
 have hck:¬ (c=k):=by omega
 have hkn':k<=n:=by omega
 clear hsoil hW1 f1 hbox0 hrow0 hg htk hcs
 go_wp2_with fail
 refine hcl.mono ?_
 rintro e W2 ⟨g,vc,rfl,hr2,hb2⟩
 have hs2:=hb2.size
 have hgl:=hr2.lt g rfl
 have ab:=(Below.refl W2.heap.size W2).alloc (Nat.le_refl _) (.cells #[.int .i64 0,.slice (some ⟨g,0,none⟩) (n - k) vc] 100)
 have kb:=heap_alloc_new W2 (.cells #[.int .i64 0,.slice (some ⟨g,0,none⟩) (n - k) vc] 100)
 have hbox3:=(ab.block L (by omega)).trans ((hb2.block L (by omega)).trans hbox1)
 have hrow3:=owns_below (owns_below hrow1 hb2) ab
 have hr3:=owns_below hr2 ab
 obtain⟨M,hM⟩:∃ M,W2.heap.size=M:=⟨_,rfl⟩
 have hs3:(W2.alloc (.cells #[.int .i64 0,.slice (some ⟨g,0,none⟩) (n - k) vc] 100)).heap.size=M+1:=by simp[hM]
 rw[hM] at kb
 have F3:Fr (fun b=>b=L∨N<=b) w (W2.alloc (.cells #[.int .i64 0,.slice (some ⟨g,0,none⟩) (n - k) vc] 100)):=(F1.trans (Fr.of_below hb2)).trans (Fr.of_below ab)
 go_upto_region 11 with fail
 generalize W2.alloc (.cells #[.int .i64 0,.slice (some ⟨g,0,none⟩) (n - k) vc] 100)=W3 at *
 clear hcl c0 c1 hb2 ab hbox1 hrow1 hr2 F1
 obtain⟨c0,c1⟩:=box_twoG hbox3
 have ff:=thawT hbox3
 have l3:L<W3.heap.size:=by omega
 have HFIN:Hid (PartAns w P t k (.iface 94 (.pointer (some ⟨L,0,none⟩))) (.returned (.iface 94 (.pointer (some ⟨M,0,none⟩)))) (W3.setCell ⟨L,1,none⟩ (.slice (some ⟨b,0,none⟩) k c))):=by
  have hst:=fr_setT W3 L 1 (.slice (some ⟨b,0,none⟩) k c)
  have s5:(W3.setCell ⟨L,1,none⟩ (.slice (some ⟨b,0,none⟩) k c)).heap.size=W3.heap.size:=by simp[World.setCell]
  have hbox5:(W3.setCell ⟨L,1,none⟩ (.slice (some ⟨b,0,none⟩) k c)).heap[L]?=some (.cells #[.int .i64 0,.slice (some ⟨b,0,none⟩) k c] 100):=by simpa using heap_setT hbox3 1 (.slice (some ⟨b,0,none⟩) k c)
  have F5:Fr (fun b=>b=L∨N<=b) w (W3.setCell ⟨L,1,none⟩ (.slice (some ⟨b,0,none⟩) k c)):=F3.trans (hst.weak (fun y e=>.inl e))
  have HG:=HH.out
  have hQlt:∀ i x,Q i x->x<N:=fun i x hx=>by have:=hP x (HG.sub i x hx).1;omega
  have hkid:∀ i z,t.kids[i]?=some z->GM (W3.setCell ⟨L,1,none⟩ (.slice (some ⟨b,0,none⟩) k c)) (Q i) z (ul.getD i .nilIface):=fun i z hz =>
   GM.keep z (Q i) (Q i) _ (fun x hx=>F5.block x (by have:=hQlt i x hx;omega) (fun e=>by
    rcases e with e | e
    ·exact (HG.sub i x hx).2.1 e
    ·have:=hQlt i x hx;omega)) (fun _ h=>h) (HG.kid i z (List.mem_of_getElem? hz) hz)
  refine⟨_,rfl,⟨fun x=>x=L∨x=b∨∃ i,i<k∧Q i x,fun x=>x=M∨x=g∨∃ i,k<=i∧Q i x,?_,?_,fun x h1 h2=>?_,fun x hx=>?_⟩,?_⟩
  ·refine GMI.is (a:=some ⟨b,0,none⟩) (n:=k) (c:=c) (ul:=ul.take k) (Q:=fun i x=>i<k∧Q i x) ⟨.inl rfl,hbox5,?_,fun y hy=>by cases hy;exact⟨.inr (.inl rfl),hbL⟩,by show k=(t.kids.take k).length;rw[List.length_take,<-HG.len];omega,fun i j x h1 h2=>HG.dis i j x h1.2 h2.2,fun i x hx=>⟨.inr (.inr ⟨i,hx⟩),(HG.sub i x hx.2).2.1,(HG.sub i x hx.2).2.2⟩,fun i z hm hi=>?_⟩ hl
   ·have:=owns_fr (owns_fore hrow3 (k:=k) (by omega)) hst (fun y hy e=>by cases hy;exact hbL e)
    rw[Nat.mul_one] at this
    exact this
   ·have hik:i<k:=by
     have:=(List.getElem?_eq_some_iff.1 hi).1
     simp[T.fore] at this
     omega
    have hz:t.kids[i]?=some z:=by simpa[T.fore,List.getElem?_take,hik] using hi
    have e:(ul.take k).getD i .nilIface=ul.getD i .nilIface:=by simp[List.getD,List.getElem?_take,hik]
    rw[e]
    exact GM.keep z (Q i) _ _ (fun _ _=>rfl) (fun x hx=>⟨hik,hx⟩) (hkid i z hz)
  ·refine GMI.is (a:=some ⟨g,0,none⟩) (n:=n - k) (c:=vc) (ul:=ul.drop k) (Q:=fun i x=>Q (k+i) x) ⟨.inl rfl,(hst.block M (by omega) (by omega)).trans kb,?_,fun y hy=>by cases hy;exact⟨.inr (.inl rfl),by show g≠M;omega⟩,by show n - k=(t.kids.drop k).length;rw[List.length_drop,<-HG.len],fun i j x h1 h2=>by have:=HG.dis _ _ x h1 h2;omega,fun i x hx=>⟨.inr (.inr ⟨k+i,by omega,hx⟩),by have:=hQlt _ x hx;omega,fun e=>by have:=own_some e;have:=hQlt _ _ hx;omega⟩,fun i z hm hi=>?_⟩ hl
   ·exact owns_fr (owns_base hr3 (Nat.zero_le _)) hst (fun y hy e=>by have:=own_some hy;omega)
   ·have hz:t.kids[k+i]?=some z:=by simpa[T.rest,List.getElem?_drop] using hi
    have e:(ul.drop k).getD i .nilIface=ul.getD (k+i) .nilIface:=by simp[List.getD,List.getElem?_drop]
    rw[e]
    exact hkid (k+i) z hz
  ·rcases h1 with rfl | rfl | ⟨i,hi,hq⟩
   ·rcases h2 with h2 | h2 | ⟨j,hj,hq2⟩
    ·omega
    ·omega
    ·exact (HG.sub j _ hq2).2.1 rfl
   ·rcases h2 with h2 | h2 | ⟨j,hj,hq2⟩
    ·omega
    ·omega
    ·exact (HG.sub j _ hq2).2.2 rfl
   ·have hx:=hQlt i x hq
    rcases h2 with h2 | h2 | ⟨j,hj,hq2⟩
    ·omega
    ·omega
    ·have:=HG.dis i j x hq hq2;omega
  ·rw[s5]
   rcases hx with (rfl | rfl | ⟨i,_,hq⟩) | (rfl | rfl | ⟨i,_,hq⟩)
   ·exact⟨.inl hPL,by omega⟩
   ·exact⟨.inl hPb,by omega⟩
   ·exact⟨.inl (HG.sub i x hq).1,by have:=hQlt i x hq;omega⟩
   ·exact⟨.inr (by omega),by omega⟩
   ·exact⟨.inr (by omega),by omega⟩
   ·exact⟨.inl (HG.sub i x hq).1,by have:=hQlt i x hq;omega⟩
  ·refine fr_tight ?_
   rw[hN]
   exact F5.weak (fun y e=>by rcases e with e | e;exact .inl (by rw[e];exact hPL);exact .inr e)
 clear hbox3 hrow3 hr3 kb F3 hgl
 go_wp2_with fail
 go_ret
 exact HFIN.out
theorem GMI.one {w:World} {P:Nat->Prop} {t:T} {L:Nat} {a:Option Addr} {n c:Nat} {ul:List Value} {Q:Nat->Nat->Prop} (h:GMI w P t L a n c ul Q):∀ u ∈ ul,u.oneCell'=true:=by
 intro u hu
 obtain⟨i,hi,rfl⟩:=List.mem_iff_getElem.1 hu
 have hul:=h.row.1
 have hlen:=h.len
 obtain⟨k,hk⟩:∃ k,t.kids[i]?=some k:=⟨_,List.getElem?_eq_getElem (by omega)⟩
 have hg:=h.kid i k (List.mem_of_getElem? hk) hk
 have e:ul.getD i .nilIface=ul[i]:=by simp[List.getD,hi]
 rw[e] at hg
 obtain⟨ty,v,e2⟩:=hg.shape
 rw[e2]
 rfl
theorem part_any {w:World} {P:Nat->Prop} {t:T} {u:Value} (h:GM w P t u) (k:Nat) (hk0:0<k) (hkn:k<t.size) (hn:t.size<=1000) (hP:∀ b,P b->b<w.heap.size):Calls Tryz.prog 104 #[u,.int .i64 k] w fun e w'=>PartAns w P t k u e w':=by
 cases hl:t.leaf
 ·obtain⟨L,a,n,c,ul,Q,rfl,q⟩:=h.inner hl
  have hs:t.size=n:=by rw[q.len];simp[T.size,hl]
  exact partInner_any q hl k hk0 (by omega) (by omega) hP q.one
 ·obtain⟨L,a,n,c,rfl,q⟩:=h.leaf hl
  have hs:t.size=n:=by rw[q.len];simp[T.size,hl]
  exact partLeaf_any q hl k hk0 (by omega) (by omega) hP
theorem GM.size {w:World} {P:Nat->Prop} {t:T} {ty:TypeId} {v:Value} (h:GM w P t (.iface ty v)):Obs w ty v "loop.example/s02098/impl.size" (.int .i64 t.size):=by
 cases hl:t.leaf
 ·obtain⟨L,a,n,c,ul,Q,e,q⟩:=h.inner hl
  cases e
  have hs:t.size=n:=by rw[q.len];simp[T.size,hl]
  refine⟨fun w=>by kernel_rfl,93,.pointer (some ⟨L,0,none⟩),fun w=>by kernel_rfl,fun w=>by kernel_rfl,?_⟩
  rw[hs];exact innerSize_g q.box
 ·obtain⟨L,a,n,c,e,q⟩:=h.leaf hl
  cases e
  have hs:t.size=n:=by rw[q.len];simp[T.size,hl]
  refine⟨fun w=>by kernel_rfl,112,.pointer (some ⟨L,0,none⟩),fun w=>by kernel_rfl,fun w=>by kernel_rfl,?_⟩
  rw[hs];exact leafSize_g q.see
def Wider (w w':World) (P:Nat->Prop):Nat->Prop:=fun b=>(P b∨w.heap.size<=b)∧b<w'.heap.size
theorem getD_set {ys:List T} {m i:Nat} {k z:T} (h:(ys.set m k)[i]?=some z):(i=m∧z=k∧m<ys.length)∨(i≠m∧ys[i]?=some z):=by
 rw[List.getElem?_set] at h
 split at h
 ·rename_i e
  split at h
  ·rename_i h2
   simp at h
   exact .inl ⟨e.symm,h.symm,h2⟩
  ·cases h
 ·rename_i e
  exact .inr ⟨fun e2=>e e2.symm,h⟩
theorem GMI.swap {w w':World} {P:Nat->Prop} {t:T} {L:Nat} {a:Option Addr} {n c:Nat} {ul:List Value} {Q:Nat->Nat->Prop} (h:GMI w P t L a n c ul Q) (hP:∀ b,P b->b<w.heap.size) {m:Nat} (hm:m<n) {R:Nat->Prop} {k:T} (hf:Fr (Q m) w w') (hk:GM w' R k (ul.getD m .nilIface)) (hR:∀ b,R b->(Q m b∨w.heap.size<=b)∧b<w'.heap.size) :
  GMI w' (Wider w w' P) { t with kids:=t.kids.set m k } L a n c ul (fun i b=>if i=m then R b else Q i b):=by
 have hsz:=hf.size
 have hL:=hP L h.at'
 have hQL:¬ Q m L:=fun e=>(h.sub m L e).2.1 rfl
 refine⟨⟨.inl h.at',by omega⟩,(hf.block L hL hQL).trans h.box,owns_fr h.row hf (fun g hg e=>(h.sub m g e).2.2 hg),fun g hg=>⟨⟨.inl (h.blk g hg).1,by have:=hP g (h.blk g hg).1;omega⟩,(h.blk g hg).2⟩,by simpa using h.len,fun i j b hi hj=>?_,fun i b hi=>?_,fun i z hz hi=>?_⟩
 ·skip
  split at hi<;>split at hj
  ·omega
  ·rename_i e1 e2
   rcases (hR b hi).1 with e | e
   ·have:=h.dis m j b e hj;omega
   ·have:=hP b (h.sub j b hj).1;omega
  ·rename_i e1 e2
   rcases (hR b hj).1 with e | e
   ·have:=h.dis i m b hi e;omega
   ·have:=hP b (h.sub i b hi).1;omega
  ·exact h.dis i j b hi hj
 ·skip
  split at hi
  ·have h9:=hR b hi
   rcases h9.1 with e | e
   ·exact⟨⟨.inl (h.sub m b e).1,h9.2⟩,(h.sub m b e).2⟩
   ·exact⟨⟨.inr e,h9.2⟩,by omega,fun e2=>by have:=hP b (h.blk b e2).1;omega⟩
  ·exact⟨⟨.inl (h.sub i b hi).1,by have:=hP b (h.sub i b hi).1;omega⟩,(h.sub i b hi).2⟩
 ·rcases getD_set hi with ⟨rfl,rfl,_⟩ | ⟨hne,hz2⟩
  ·simp only[if_true];exact hk
  ·simp only[if_neg hne]
   exact GM.keep z (Q i) (Q i) _ (fun b hb=>hf.block b (hP b (h.sub i b hb).1) (fun e=>hne (h.dis i m b hb e))) (fun _ hb=>hb) (h.kid i z (List.mem_of_getElem? hz2) hz2)
theorem GMI.see {w:World} {P:Nat->Prop} {t:T} {L:Nat} {a:Option Addr} {n c:Nat} {ul:List Value} {Q:Nat->Nat->Prop} (q:GMI w P t L a n c ul Q):GInner w P t L a n c (fun i=>ul.getD i .nilIface):=by
 have hrow:=q.row
 refine⟨q.at',q.box,?_,?_,fun i k hm hi=>GIs.keep (fun _ _=>rfl) (fun b hb=>(q.sub i b hb).1) k _ (GM.see k (Q i) _ (q.kid i k hm hi))⟩
 ·rcases hrow.2 with ⟨e,e2⟩ | ⟨g,cap,cur,e,h1,h2,h3,h4,_⟩
  ·simp only[Value.slice.injEq] at e
   exact⟨q.len,by omega,by omega⟩
  ·simp only[Value.slice.injEq] at e
   obtain⟨_,_,rfl⟩:=e
   exact⟨q.len,h3,h4⟩
 ·intro hn
  rcases hrow.2 with ⟨e,e2⟩ | ⟨g,cap,cur,e,h1,h2,h3,h4,_⟩
  ·omega
  ·simp only[Value.slice.injEq] at e
   obtain⟨rfl,_,rfl⟩:=e
   refine⟨g,rfl,(q.blk g rfl).1,fun i hi=>?_⟩
   rw[hrow.cellAt i (by omega)]
   have hul:=hrow.1
   simp[List.getD,show i<ul.length by omega]
theorem GMI.below {w w':World} {P:Nat->Prop} {t:T} {L:Nat} {a:Option Addr} {n c:Nat} {ul:List Value} {Q:Nat->Nat->Prop} (h:GMI w P t L a n c ul Q) (hP:∀ b,P b->b<w.heap.size) (hb:Below w.heap.size w w'):GMI w' P t L a n c ul Q :=
 ⟨h.at',(hb.block L (hP L h.at')).trans h.box,owns_below h.row hb,h.blk,h.len,h.dis,h.sub,fun i k hm hi=>GM.keep k (Q i) (Q i) _ (fun b hq=>hb.block b (hP b (h.sub i b hq).1)) (fun _ h=>h) (h.kid i k hm hi)⟩
theorem GMI.re {w:World} {P:Nat->Prop} {t t':T} {L:Nat} {a:Option Addr} {n c:Nat} {ul:List Value} {Q:Nat->Nat->Prop} (h:GMI w P t L a n c ul Q) (hp:t'.page=t.page) (hk:t'.kids=t.kids):GMI w P t' L a n c ul Q :=
 ⟨h.at',by rw[hp];exact h.box,h.row,h.blk,by rw[hk];exact h.len,h.dis,h.sub,fun i k hm hi=>h.kid i k (by rw[<-hk];exact hm) (by rw[<-hk];exact hi)⟩
def PutOk (key val:ByteArray) (k:T):Prop:=∀ (w:World) (P:Nat->Prop) (ty:TypeId) (v:Value),GM w P k (.iface ty v)->(∀ b,P b->b<w.heap.size)->(∀ w,(nilAhead 261 ty v "loop.example/s02098/impl.put").run Tryz.prog w=.ok (some false) w)∧∃ f r,(∀ w,(method 261 ty v "loop.example/s02098/impl.put").run Tryz.prog w=.ok (f,r) w)∧(∀ x w,(callFunc f #[r,x]).run Tryz.prog w=.ok (.enter f #[r,x]) w)∧Calls Tryz.prog f #[r,.agg #[.string key,.string val,.int .i64 0]] w fun e w'=>PutAns w P (putT key val k) (.iface ty v) e w'
theorem setT_one {ys:List T} {m:Nat} {k:T} (h:m<ys.length):ys.set m k=ys.take m++[k]++ys.drop (m+1):=by
 rw[List.set_eq_take_append_cons_drop,if_pos h]
 simp
theorem GMI.set0 {w W0 W1:World} {P:Nat->Prop} {t:T} {L:Nat} {a:Option Addr} {n c:Nat} {ul:List Value} {Q:Nat->Nat->Prop} (h:GMI w P t L a n c ul Q) (hP:∀ b,P b->b<w.heap.size) (hb:Below w.heap.size w W0) (hW:W1=W0.setCell ⟨L,0,none⟩ (.int .i64 0)):GMI W1 P { t with page:=0 } L a n c ul Q:=by
 have h0:=h.below hP hb
 have f1:=fr_setT W0 L 0 (.int .i64 0)
 rw[<-hW] at f1
 have hs:=hb.size
 refine⟨h.at',by rw[hW];simpa using heap_setT h0.box 0 (.int .i64 0),owns_fr h0.row f1 (fun g hg e=>(h.blk g hg).2 e),h.blk,h.len,h.dis,h.sub,fun i k hm hi=>GM.keep k (Q i) (Q i) _ (fun b hq=>f1.block b (by have:=hP b (h.sub i b hq).1;omega) (h.sub i b hq).2.1) (fun _ h=>h) (h0.kid i k hm hi)⟩
theorem getD_kid {w:World} {P:Nat->Prop} {t:T} {L:Nat} {a:Option Addr} {n c m:Nat} {ul:List Value} {Q:Nat->Nat->Prop} (h:GMI w P t L a n c ul Q) (hm:m<n):∃ b ty v,a=some ⟨b,0,none⟩∧ul.getD m .nilIface=.iface ty v∧w.cell? ⟨b,m,none⟩=some (.iface ty v):=by
 have hl:=h.len
 obtain⟨k,hk⟩:∃ k,t.kids[m]?=some k:=⟨_,List.getElem?_eq_getElem (by omega)⟩
 obtain⟨ty,v,e⟩:=(h.kid m k (List.mem_of_getElem? hk) hk).shape
 obtain⟨b,e2,_,hc⟩:=h.see.row (by omega)
 exact⟨b,ty,v,e2,e,(hc m hm).trans (by rw[e])⟩
structure Soft (t:T) (lo hi:Nat):Prop where
 page:t.page=0
 size:lo<=t.size∧t.size<=hi
 leaf:t.leaf=true->t.vals.length=t.keys.length∧t.over.length=t.keys.length∧(∀ x ∈ t.vals.zip t.over,standB 0 x.1 x.2=true)∧t.kids=[]
 kids:∀ k ∈ t.kids,k.good false=true∧Shape k
theorem good_parts {t:T} {r:Bool} (h:t.good r=true):((if r && t.leaf then 0 else 2)<=t.size∧t.size<=4)∧(t.leaf=true->t.vals.length=t.keys.length∧t.over.length=t.keys.length∧∀ x ∈ t.vals.zip t.over,standB t.page x.1 x.2=true)∧∀ k ∈ t.kids,k.good false=true:=by
 have h0:=h
 rw[T.good_eq] at h
 simp only[Bool.and_eq_true,decide_eq_true_eq] at h
 refine⟨by simpa using h.1.1.1.1,fun hl=>?_,fun k hk=>goodG_kid h0 hk⟩
 have h2:=h.1.1.2
 rw[hl] at h2
 simp only[Bool.not_true,Bool.false_or,Bool.and_eq_true,decide_eq_true_eq,List.all_eq_true] at h2
 exact⟨h2.1.1,h2.1.2,h2.2⟩
theorem Soft.good {t:T} {lo hi:Nat} (h:Soft t lo hi) (r:Bool) (hlo:(if r && t.leaf then 0 else 2)<=t.size) (hhi:t.size<=4):t.good r=true:=by
 rw[T.good_eq]
 have hp:=h.page
 simp only[Bool.and_eq_true,decide_eq_true_eq]
 refine⟨⟨⟨⟨⟨by simpa using hlo,hhi⟩,by simp[hp]⟩,?_⟩,?_⟩,?_⟩
 ·cases hl:t.leaf
  ·rfl
  ·obtain⟨h1,h2,h3,_⟩:=h.leaf hl
   simp only[Bool.not_true,Bool.false_or,Bool.and_eq_true,decide_eq_true_eq,List.all_eq_true]
   exact⟨⟨h1,h2⟩,fun x hx=>by rw[hp];exact h3 x hx⟩
 ·rw[List.all_eq_true]
  intro x hx
  obtain⟨k,hk,rfl⟩:=List.mem_map.1 hx
  exact (h.kids k hk).1
 ·rw[List.all_eq_true]
  intro k hk
  simp[hp]
theorem stand_soft {p:Int} {v:ByteArray} {o:Int} (h:standB p v o=true):standB 0 v o=true:=by
 unfold standB at h ⊢
 simp only[Bool.and_eq_true] at h ⊢
 exact⟨h.1,by simp⟩
theorem zip_map2:∀ (zs:List (ByteArray × ByteArray × Int)),(zs.map (fun s=>s.2.1)).zip (zs.map (fun s=>s.2.2))=zs.map (fun s=>s.2)
 | []=>rfl
 | s::r=>by simp[zip_map2 r]
theorem leafZ_soft {zs:List (ByteArray × ByteArray × Int)} {lo hi:Nat} (h:lo<=zs.length∧zs.length<=hi) (hz:∀ s ∈ zs,standB 0 s.2.1 s.2.2=true):Soft (leafZ zs) lo hi:=by
 refine⟨rfl,by simpa[leafZ,T.size] using h,fun _=>⟨by simp[leafZ],by simp[leafZ],fun x hx=>?_,rfl⟩,fun k hk=>by simp[leafZ] at hk⟩
 have e:(leafZ zs).vals.zip (leafZ zs).over=zs.map (fun s=>s.2):=zip_map2 zs
 rw[e] at hx
 obtain⟨s,hs,rfl⟩:=List.mem_map.1 hx
 exact hz s hs
theorem zip_mem {a:List ByteArray} {b:List ByteArray} {c:List Int} {s:ByteArray × ByteArray × Int} (h:s ∈ a.zip (b.zip c)):s.2 ∈ b.zip c:=by
 obtain⟨s1,s2⟩:=s
 exact (List.of_mem_zip h).2
theorem good_whole:∀ (t:T) (r:Bool),t.good r=true->Shape t->t.whole=true:=by
 intro t
 induction t using T.ind with
 | h t ih =>
  intro r hg hs
  rw[shape_eq] at hs
  obtain⟨hsz,hlf,hkd⟩:=good_parts hg
  rw[T.whole_eq]
  simp only[Bool.and_eq_true]
  refine⟨⟨?_,?_⟩,?_⟩
  ·cases hl:t.leaf
   ·rfl
   ·obtain⟨e1,e2,_⟩:=hlf hl
    have hsk:t.size=t.keys.length:=by simp[T.size,hl]
    simp only[Bool.not_true,Bool.false_or,Bool.and_eq_true,decide_eq_true_eq]
    exact⟨⟨⟨e1,e2⟩,by omega⟩,by simp[hs.1 hl]⟩
  ·cases hl:t.leaf
   ·have hsk:t.size=t.kids.length:=by simp[T.size,hl]
    simp only[Bool.false_or,Bool.and_eq_true,List.all_eq_true,decide_eq_true_eq]
    refine⟨?_,fun k hk=>?_⟩
    ·cases hk:t.kids with
     | nil=>rw[hk] at hsk;simp[hl] at hsz hsk;omega
     | cons a b=>rfl
    ·have:=(good_parts (hkd k hk)).1;simp at this;omega
   ·rfl
  ·rw[List.all_eq_true]
   intro x hx
   obtain⟨k,hk,rfl⟩:=List.mem_map.1 hx
   exact ih k hk false (hkd k hk) (hs.2 k hk)
end Go.Proofs.YtbfggcekifaldaaGreat
