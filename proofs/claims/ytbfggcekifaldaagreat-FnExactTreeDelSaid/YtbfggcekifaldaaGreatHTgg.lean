import Derived.Test.YtbfggcekifaldaaGreatTks
import Derived.Test.YtbfggcekifaldaaGreatTge
import Derived.Test.YtbfggcekifaldaaGreatTgf
import Derived.Test.YtbfggcekifaldaaGreatTli
import Derived.Test.YtbfggcekifaldaaGreatHTlj
import Derived.Test.YtbfggcekifaldaaGreatHTma
import Derived.Test.YtbfggcekifaldaaGreatHTtc
import Derived.Laws.Tables
import Derived.Shelf.Spec.SlicesInsertGrow
import Derived.Deep.RegionLaw
import Derived.Laws.AppendOwn
import Derived.ArgAppend
import Derived.Deep.QuietTactic
import Derived.BigQuiet
namespace Go.Proofs.YtbfggcekifaldaaGreat
set_option maxHeartbeats 2000000
open Go.RowKit
set_option linter.unusedVariables false
set_option linter.unusedSimpArgs false
set_option maxRecDepth 100000
theorem wpList_append_slT {P:Program} (w:World) {ops:Array Oper} {rest:List Oper} {o:Oper} {a:Act} {Q:Exit->Act->World->Prop} (hgd:o.guard=none) (s x:Operand) (t:TypeId)
  (ho:o.op=.call { callee:=.builtin .append,args:=#[s,x],argTypes:=#[t,t] })
  (base:Nat) (e:TypeId) (i:TypeInfo) (z:Value) (bytes:Nat) (ht:P.underlying t=some (.slice e)) (hi:P.info? e=some i) (hz:i.zero=some z)
  (hsize:i.size=3) (hby:i.bytes=bytes) (hzs:z.cells.size=3)
  (v:Value) (n:Nat) (xs:List Value) (hs:a.eval s=v) (hown:w.ownsRow base e 3 v n xs)
  {Pb:Nat->Prop} {ad:Option Addr} {m c:Nat} {zs:List (ByteArray × ByteArray × Int)} (hx:a.eval x=.slice ad m c) (hr:SlAt w Pb ad m c zs)
  (h63:n+m<=maxLen) (hbytes:(n+m)*bytes<=140737488355328) (hbase:base<=w.heap.size)
  (h:∀ v' w',w'.ownsRow base e 3 v' (n+m) (xs++rowsOf slCells zs)->w.grownBy w' v.ownBlock->wpList P ops Q rest (a.put o.dst v') w'):wpList P ops Q (o::rest) a w:=by
 obtain ⟨hl,hc1,hc2,hc⟩:=hr
 cases ad with
 | none =>
  have h0:m=0:=by
   rcases Nat.eq_zero_or_pos m with h | h
   ·exact h
   ·obtain ⟨b,e,_⟩:=hc h;cases e
  subst h0
  have hy:zs=[]:=List.eq_nil_of_length_eq_zero hl
  subst hy
  refine wpList_plain hgd fun _ hK=>?_
  have hrun:=run_append_zeroT (P:=P) w base t o.type e i 3 ht hi _ n xs hown c
  unfold Oper.wp execOp
  simp only [ho,resolve,invoke,builtin,Sem.run_bind,Sem.run_pure,Result.andThen_ok,List.map_toArray,List.map_cons,List.map_nil,hs,hx,hrun]
  exact hK _ _ (h v w (by simpa [rowsOf] using hown) ⟨rfl,rfl,rfl,Nat.le_refl _,fun _ _ _=>rfl⟩)
 | some ad =>
  refine wpList_append_ownD w hgd s x t ho base e i z 3 bytes ht hi hz hsize hby hzs (by omega) v n xs hs hown ad m c (rowsOf slCells zs) hx (by rw [rowsOf_length sl3,hl]) (fun j u hj=>?_) (fun u hu=>?_) h63 hbytes hbase (fun v' w' h1 h2 _=>h v' w' h1 h2)
  ·have hjl:j<m*3:=by
    have:=(List.getElem?_eq_some_iff.1 hj).1
    rwa [rowsOf_length sl3,hl] at this
   obtain ⟨b,e,hb,hcc⟩:=hc (by omega)
   cases e
   rw [addr0_add,hcc j hjl,hj]
  ·simp only [rowsOf,List.mem_flatMap,slCells] at hu
   obtain ⟨y,_,hy⟩:=hu
   simp at hy
   rcases hy with rfl | rfl | rfl<;>rfl
def SObs (base:Nat) (w:World) (zs:List (ByteArray × ByteArray × Int)) (ty:TypeId) (v:Value):Prop :=
 (∀ w,(nilAhead 261 ty v "loop.example/s02098/impl.slots").run Tryz.prog w=.ok (some false) w)∧∃ f r,(∀ w,(method 261 ty v "loop.example/s02098/impl.slots").run Tryz.prog w=.ok (f,r) w)∧(∀ x w,(callFunc f #[r,x]).run Tryz.prog w=.ok (.enter f #[r,x]) w) ∧
  ∀ (w':World),Below base w w'->∀ (oa:Option Addr) (on oc:Nat) (xs:List Value),w'.ownsRow base 111 3 (.slice oa on oc) on xs->on+zs.length<=100000->base<=w'.heap.size->Calls Tryz.prog f #[r,.slice oa on oc] w' fun e w2=>∃ oa' oc',e=.returned (.slice oa' (on+zs.length) oc')∧w2.ownsRow base 111 3 (.slice oa' (on+zs.length) oc') (on+zs.length) (xs++rowsOf slCells zs)∧Fr (fun k=>base<=k) w' w2
theorem leafSlots_g {base:Nat} {w:World} {P:Nat->Prop} {t:T} {L:Nat} {a:Option Addr} {n c:Nat} (h:GLeaf w P t L a n c) (hP:∀ b,P b->b<base) (w':World) (hb:Below base w w') (oa:Option Addr) (on oc:Nat) (xs:List Value) (hown:w'.ownsRow base 111 3 (.slice oa on oc) on xs) (hm:on+n<=100000) (hbs:base<=w'.heap.size) :
  Calls Tryz.prog 113 #[.pointer (some ⟨L,0,none⟩),.slice oa on oc] w' fun e w2=>∃ oa' oc',e=.returned (.slice oa' (on+n) oc')∧w2.ownsRow base 111 3 (.slice oa' (on+n) oc') (on+n) (xs++rowsOf slCells (t.keys.zip (t.vals.zip t.over)))∧Fr (fun k=>base<=k) w' w2:=by
 have hLb:=hP L h.at'
 have hbox:w'.heap[L]?=some (.cells #[.int .i64 t.page,.slice a n c] 121):=(hb.block L hLb).trans h.box
 obtain ⟨c0,c1⟩:=box_twoG hbox
 have hlt:L<w'.heap.size:=by omega
 have hrow:SlAt w' P a n c (t.keys.zip (t.vals.zip t.over)):=h.row.keep (fun b hb2=>hb.block b (hP b hb2)) (fun b h=>h)
 have hlow:=fun g hg=>(hown.lt g hg).1
 obtain ⟨i0,hi,hz0,hz1,hz2⟩:=info_parts info_slot
 clear h hbox
 generalize t.keys.zip (t.vals.zip t.over)=zs at *
 generalize t.page=pg at *
 go_enter Tryz.func113,Tryz.ntmps113
 go_wp2_with (at_builtin;refine wpList_append_slT _ rfl _ _ 89 rfl base 111 i0 _ 40 Tryz.underlying89 hi hz0 hz1 hz2 rfl (.slice oa on oc) on xs rfl hown rfl hrow (by unfold maxLen;omega) (by omega) hbs ?_;intro v' w2 h1 h2)
 obtain ⟨oa',oc',rfl⟩:=own_shape h1
 go_ret
 exact ⟨oa',oc',rfl,h1,Fr.of_grown h2 hlow⟩
theorem innerSlots_g {base:Nat} {w:World} {P:Nat->Prop} {t:T} {L:Nat} {a:Option Addr} {n c:Nat} {us:Nat->Value} (h:GInner w P t L a n c us) (hP:∀ b,P b->b<base) (hk:∀ i k,t.kids[i]?=some k->∃ ty v,us i=.iface ty v∧SObs base w k.slots ty v) (w':World) (hb:Below base w w') (oa:Option Addr) (on oc:Nat) (xs:List Value) (hown:w'.ownsRow base 111 3 (.slice oa on oc) on xs) (hm:on+((t.kids.map T.slots).flatten).length<=100000) (hbs:base<=w'.heap.size) :
  Calls Tryz.prog 94 #[.pointer (some ⟨L,0,none⟩),.slice oa on oc] w' fun e w2=>∃ oa' oc',e=.returned (.slice oa' (on+((t.kids.map T.slots).flatten).length) oc')∧w2.ownsRow base 111 3 (.slice oa' (on+((t.kids.map T.slots).flatten).length) oc') (on+((t.kids.map T.slots).flatten).length) (xs++rowsOf slCells (t.kids.map T.slots).flatten)∧Fr (fun k=>base<=k) w' w2:=by
 have hLb:=hP L h.at'
 have hbox:w'.heap[L]?=some (.cells #[.int .i64 t.page,.slice a n c] 100):=(hb.block L hLb).trans h.box
 obtain ⟨c0,c1⟩:=box_twoG hbox
 have hlt:L<w'.heap.size:=by omega
 have HN:Hid (n=t.kids.length):=h.len.1
 have hn63:=Nat.le_trans h.len.2.1 h.len.2.2
 unfold maxLen at hn63
 have HROW:Hid (∀ wr,Fr (fun k=>base<=k) w' wr->∀ i,i<n->∃ b,a=some ⟨b,0,none⟩∧b<wr.heap.size∧wr.cell? ⟨b,i,none⟩=some (us i)):=fun wr hf i hi=>by
  obtain ⟨b,e,hpb,hc⟩:=h.row (by omega)
  have:=hP b hpb
  have hcell:wr.cell? ⟨b,i,none⟩=some (us i):=by
   rw [World.cell?_of_block (w:=w) (a:=⟨b,i,none⟩) ((hf.block b (by omega) (by omega)).trans (hb.block b this))]
   exact hc i hi
  exact ⟨b,e,lt_of_cellG hcell,hcell⟩
 have HK:Hid (∀ i k,t.kids[i]?=some k->∃ ty v,us i=.iface ty v∧SObs base w k.slots ty v):=hk
 obtain ⟨tot,htot⟩:∃ tot,(t.kids.map T.slots).flatten=tot:=⟨_,rfl⟩
 have HTOT:Hid ((t.kids.map T.slots).flatten=tot):=htot
 rw [htot] at hm ⊢
 have HB:Hid (Below base w w'):=hb
 clear h hk hbox htot hb
 generalize t.page=pg at *
 go_enter Tryz.func94,Tryz.ntmps94
 go_wp2_with fail
 clear c0 c1
 go_loopw [1,12] (fun o i wr=>∃ (j m:Nat) (va:Option Addr) (vc:Nat),j<=n∧i=.int .i64 j∧o=.slice va m vc∧Hid (m=on+(((t.kids.map T.slots).take j).flatten).length)∧wr.ownsRow base 111 3 (.slice va m vc) m (xs++rowsOf slCells ((t.kids.map T.slots).take j).flatten)∧Fr (fun k=>base<=k) w' wr) (fun _ i _=>n - (intOf i).toNat)
 case atStart=>exact ⟨0,on,oa,oc,Nat.zero_le _,rfl,rfl,by show _=_;simp,by simpa [rowsOf] using hown,Fr.refl _ _⟩
 case round =>
  clear hown
  obtain ⟨j,m,va,vc,hj,rfl,rfl,HM,hown,hfr⟩:=hrel
  by_cases hlt2:j<n
  ·obtain ⟨b,rfl,hbl,hcell⟩:=HROW.out wr hfr j hlt2
   obtain ⟨k,hki⟩:∃ k,t.kids[j]?=some k:=⟨_,List.getElem?_eq_getElem (by have:=HN.out;omega)⟩
   obtain ⟨ty,v,hu,ha,f,r,hme,hcf,hcall⟩:=HK.out j k hki
   rw [hu] at hcell
   have hft:((t.kids.map T.slots).take (j+1)).flatten=((t.kids.map T.slots).take j).flatten++k.slots:=by
    obtain ⟨hj2,e⟩:=List.getElem?_eq_some_iff.1 hki
    rw [List.take_succ_eq_append_getElem (by simpa using hj2),List.flatten_append]
    simp [e]
   have hfl:=flat_take_le (t.kids.map T.slots) (j+1)
   have hbd:m+k.slots.length<=100000:=by
    rw [hft,List.length_append,HTOT.out] at hfl
    have:=HM.out
    omega
   have hcall2:=hcall wr (HB.out.trans (hfr.below hbs (fun g e=>e))) va m vc _ hown hbd (by have:=hfr.size;omega)
   have HFT:Hid _:=hft
   have hcf2:=hcf (.slice va m vc)
   clear hft hfl hcall hown hu hcf
   go_wp2_with fail
   refine hcall2.mono ?_
   rintro e w2 ⟨va',vc',rfl,hown2,hfr2⟩
   have hown3:w2.ownsRow base 111 3 (.slice va' (m+k.slots.length) vc') (m+k.slots.length) (xs++rowsOf slCells ((t.kids.map T.slots).take (j+1)).flatten):=by
    rw [HFT.out,rowsOf_append,<-List.append_assoc]
    exact hown2
   have HM2:Hid (m+k.slots.length=on+(((t.kids.map T.slots).take (j+1)).flatten).length):=by
    show _=_
    rw [HFT.out,List.length_append]
    have:=HM.out
    omega
   have hfr3:=hfr.trans hfr2
   clear hcall2 hown2 HM hfr hfr2 HFT
   generalize k.slots.length=kl at *
   go_wp2_with fail
   go_roundw
   case rel=>exact ⟨j+1,m+kl,va',vc',by omega,by go_num,rfl,HM2,hown3,hfr3⟩
   case measure=>simp [intOf];omega
  ·have HE:Hid (((t.kids.map T.slots).take j).flatten=tot):=by
    show _=_
    rw [<-HTOT.out,List.take_of_length_le (by simp;have:=HN.out;omega)]
   rw [HE.out] at hown HM
   have hmm:m=on+tot.length:=HM.out
   clear HM
   subst hmm
   go_wp2_with fail
   go_ret
   exact ⟨va,vc,rfl,hown,hfr⟩
theorem GIs.slots {base:Nat} {w:World} {P:Nat->Prop} (hP:∀ b,P b->b<base):∀ (t:T) (ty:TypeId) (v:Value),Shape t->GIs w P t (.iface ty v)->SObs base w t.slots ty v:=by
 intro t
 induction t using T.ind with
 | h t ih =>
  intro ty v hs h
  rw [shape_eq] at hs
  cases hl:t.leaf
  ·obtain ⟨L,a,n,c,us,e,hG⟩:=h.inner hl
   cases e
   have hsl:t.slots=(t.kids.map T.slots).flatten:=by rw [T.slots_eq,if_neg (by simp [hl]),List.nil_append]
   rw [hsl]
   refine ⟨fun w=>by kernel_rfl,94,.pointer (some ⟨L,0,none⟩),fun w=>by kernel_rfl,fun x w=>by kernel_rfl,fun w' hb oa on oc xs hown hm hbs=>?_⟩
   refine innerSlots_g hG hP (fun i k hi=>?_) w' hb oa on oc xs hown hm hbs
   have hkm:k ∈ t.kids:=List.mem_of_getElem? hi
   have hK:=hG.kid i k hkm hi
   obtain ⟨ty',v',hu⟩:=hK.shape
   rw [hu] at hK
   exact ⟨ty',v',hu,ih k hkm ty' v' (hs.2 k hkm) hK⟩
  ·obtain ⟨L,a,n,c,e,hG⟩:=h.leaf hl
   cases e
   have hsl:t.slots=t.keys.zip (t.vals.zip t.over):=by rw [T.slots_eq,if_pos hl,hs.1 hl];simp
   rw [hsl]
   have hln:(t.keys.zip (t.vals.zip t.over)).length=n:=hG.row.1
   refine ⟨fun w=>by kernel_rfl,113,.pointer (some ⟨L,0,none⟩),fun w=>by kernel_rfl,fun x w=>by kernel_rfl,fun w' hb oa on oc xs hown hm hbs=>?_⟩
   rw [hln] at hm ⊢
   exact leafSlots_g hG hP w' hb oa on oc xs hown hm hbs
def shareN (n:Nat):Nat:=if n=5 then 3 else min n 4
def sharesF:Nat->Nat->List Int
 | 0,_=>[]
 | f+1,n=>if n=0 then [] else (shareN n:Int)::sharesF f (n - shareN n)
def sharesL (n:Nat):List Int:=sharesF n n
def chunksF {α:Type}:Nat->List α->List (List α)
 | 0,_=>[]
 | f+1,l=>if l=[] then [] else l.take (shareN l.length)::chunksF f (l.drop (shareN l.length))
def chunks {α:Type} (l:List α):List (List α):=chunksF l.length l
def leafB (zs:List (ByteArray × ByteArray)):T:=⟨true,0,zs.map (fun z=>z.1),zs.map (fun z=>z.2),zs.map (fun _=>0),[]⟩
def slB (zs:List (ByteArray × ByteArray)):List (ByteArray × ByteArray × Int):=zs.map (fun z=>(z.1,z.2,0))
def PrAt (w:World) (B:Nat) (a:Option Addr) (n c:Nat) (zs:List (ByteArray × ByteArray)):Prop:=zs.length=n∧n<=c∧c<=maxLen∧(0<n->∃ b off,a=some ⟨b,off,none⟩∧b<B∧∀ i,i<n->w.cell? ⟨b,off+i*2,none⟩=some (.string (zs.getD i (ByteArray.empty,ByteArray.empty)).1)∧w.cell? ⟨b,off+i*2+1,none⟩=some (.string (zs.getD i (ByteArray.empty,ByteArray.empty)).2))
structure FlSt (W wr:World) (L j:Nat) (ha:Option Addr) (hc:Nat) (zs:List (ByteArray × ByteArray × Int)):Prop where
 box:wr.heap[L]?=some (.cells #[.int .i64 0,.slice ha j hc] 121)
 row:wr.ownsRow (L+1) 111 3 (.slice ha j hc) j (rowsOf slCells zs)
 len:zs.length=j
 bel:Below L W wr
theorem info_nodeU:(Tryz.prog.info? 54).map (fun i=>(i.zero,i.size,i.bytes))=some (some .nilIface,1,16):=by kernel_rfl
structure LvSt (w0 wr:World) (lo m c:Nat) (a:Option Addr) (ts:List T) (us:List Value):Prop where
 row:wr.ownsRow lo 54 1 (.slice a m c) m us
 len:ts.length=m
 node:∀ (i:Nat) (t:T),ts[i]?=some t->∃ u,us[i]?=some u∧GIs wr (fun b=>lo<=b∧b<wr.heap.size∧(Value.slice a m c).ownBlock≠some b) t u
 bel:Below lo w0 wr
def ShAt (W:World) (sa:Option Addr) (xs:List Int):Prop:=∀ k,k<xs.length->∃ g,sa=some ⟨g,0,none⟩∧g<W.heap.size∧W.cell? ⟨g,k,none⟩=some (.int .i64 (xs.getD k 0))
def innB (ks:List T):T:=⟨false,0,[],[],[],ks⟩
theorem emptyN (w:World):(w.alloc (.cells #[] 54)).ownsRow w.heap.size 54 1 (.slice (some ⟨w.heap.size,0,none⟩) 0 0) 0 []:=by
 have:=World.ownsRow_made w #[] (base:=w.heap.size) (e:=54) (size:=1) 0 (by simp) (by unfold maxLen;omega) (by simp)
 simpa using this
theorem cloneN_any (b off n c:Nat) (xs:List Value) (w:World) (hx:xs.length=n) (hn:0<n) (hm:n<=1048576) (hb:b<w.heap.size) (h1:∀ u ∈ xs,u.oneCell'=true) (hc:∀ j u,xs[j]?=some u->w.cell? ((⟨b,off,none⟩:Addr).add j)=some u) :
  Calls Tryz.prog 106 #[.slice (some ⟨b,off,none⟩) n c] w fun e w'=>∃ g vc,e=.returned (.slice (some ⟨g,0,none⟩) n vc)∧w'.ownsRow w.heap.size 54 1 (.slice (some ⟨g,0,none⟩) n vc) n xs∧Below w.heap.size w w':=by
 have hq:∀ (w:World) (a:Option Addr) (n c n' c':Nat),(binOp .eql 98 (.slice a n c) (.slice none n' c')).run Tryz.prog w=.ok (.bool a.isNone) w:=fun w a n c n' c'=>Lib.run_eql_slice_nil w _ _ a n c n' c' Tryz.underlying98
 obtain ⟨i1,hi1,hy0,hy1,hy2⟩:=info_parts info_nodeU
 have hb2:Below w.heap.size w (w.alloc (.cells #[] 54)):=(Below.refl _ _).alloc (Nat.le_refl _) _
 have hR2:=emptyN w
 have hc2:∀ j u,xs[j]?=some u->(w.alloc (.cells #[] 54)).cell? ((⟨b,off,none⟩:Addr).add j)=some u:=fun j u hj=>(hb2.cell (p:=(⟨b,off,none⟩:Addr).add j) (by unfold Addr.add;split<;>exact hb)).trans (hc j u hj)
 go_enter Tryz.func106,Tryz.ntmps106
 go_wp2_with (at_builtin;refine wpList_append_ownD _ rfl _ _ 98 rfl w.heap.size 54 i1 _ 1 16 Tryz.underlying98 hi1 hy0 hy1 hy2 rfl (by decide) _ _ _ rfl hR2 ⟨b,off,none⟩ n c xs rfl (by omega) hc2 h1 (by unfold maxLen;omega) (by omega) hb2.size ?_;intro v' w5 hown' hgr' hat';obtain ⟨n',rfl⟩:∃ n',n=n'+1:=⟨n - 1,by omega⟩;rw [Nat.zero_add,List.nil_append] at hown';obtain ⟨g5,e5,rfl⟩:=rowSuccT hown')
 have hb3:=hb2.grown hgr' hb2.size (fun g e=>(hR2.lt g e).1)
 go_ret
 exact ⟨g5,e5,rfl,hown',hb3⟩
def upT (ts:List T):List T:=(chunks ts).map innB
def topF:Nat->List T->List T
 | 0,ts=>ts
 | f+1,ts=>if 1<ts.length then topF f (upT ts) else ts
def lvlB (zs:List (ByteArray × ByteArray)):List T:=(chunks zs).map leafB
def rootT (zs:List (ByteArray × ByteArray)):T:=(topF zs.length (lvlB zs)).headD (leafB [])
def sumN (ts:List T):Nat:=(ts.map T.nodes).sum
structure LvOk (n:Nat) (ts:List T):Prop where
 pos:0<ts.length
 le:ts.length<=n
 sum:sumN ts+ts.length<=2*n
 all:∀ t ∈ ts,t.whole=true∧0<t.size
theorem told_any {t:T} {ty:TypeId} {v:Value} {P:Nat->Prop} (w:World) (hw:t.whole=true) (hG:GIs w P t (.iface ty v)) (hP:∀ b,P b->b<w.heap.size) (hn:t.nodes<=10000000) :
  Calls Tryz.prog 22 #[.iface ty v] w fun e w'=>∃ oa oc us,e=.returned (.agg #[.slice oa t.nodes oc])∧OwnT w' w.heap.size (.slice oa t.nodes oc) ((t.flat 0).map TN.nd) us∧Below w.heap.size w w':=by
 obtain ⟨W,hW⟩:∃ W,W=w.alloc (.cells #[.slice none 0 0] 28):=⟨_,rfl⟩
 have hb1:Below w.heap.size w W:=by rw [hW];exact (Below.refl _ _).alloc (Nat.le_refl _) _
 have hs1:W.heap.size=w.heap.size+1:=by rw [hW];simp
 have hx:W.heap[w.heap.size]?=some (.cells #[.slice none 0 0] 28):=by rw [hW];exact heap_alloc_new w _
 have hG1:GIs W (fun b=>b<w.heap.size) t (.iface ty v):=GIs.keep (fun b hp=>hb1.block b (hP b hp)) hP t _ hG
 obtain ⟨ha,f,r,hmt,hcf,hcall⟩:=GIs.tell (base:=W.heap.size) (P:=fun b=>b<w.heap.size) (fun b hp=>by have:b<w.heap.size:=hp;omega) t ty v hw hG1
 have hcall2:=hcall W (Below.refl _ _) none 0 0 [] (fun _ _=>.slice none 0 0) (OwnT.nil _ _ _) rfl (by omega) (Nat.le_refl _)
 have hcf2:=hcf (.slice none 0 0)
 clear hcall hcf hG1 hG
 go_enter Tryz.func22,Tryz.ntmps22
 go_upto_region 1 with fail
 rw [<-hW]
 have HS1:Hid (W.heap.size=w.heap.size+1):=hs1
 clear hW hs1
 go_wp2_with fail
 refine hcall2.mono ?_
 rintro ex w9 ⟨oa,oc,us,rfl,hO,hF⟩
 have hO1:OwnT w9 (w.heap.size+1) (.slice oa t.nodes oc) ((t.flat 0).map TN.nd) us:=by rw [HS1.out,Nat.zero_add,List.nil_append] at hO;exact hO
 rw [Nat.zero_add]
 have hx9:=boxT_fr hx hF (by have:=HS1.out;omega)
 have hl9:=(Array.getElem?_eq_some_iff.1 hx9).1
 have c9:w9.cell? ⟨w.heap.size,0,none⟩=some (.slice none 0 0):=by simp [World.cell?,hx9]
 have z9:=box_fz hx9 0
 have hb9:Below w.heap.size w w9:=hb1.trans (hF.below (by have:=HS1.out;omega) (fun b e=>by have:=HS1.out;omega))
 have F10:=fr_setT w9 w.heap.size 0 (.slice oa t.nodes oc)
 have hO2:OwnT (w9.setCell ⟨w.heap.size,0,none⟩ (.slice oa t.nodes oc)) w.heap.size (.slice oa t.nodes oc) ((t.flat 0).map TN.nd) us:=(hO1.fr F10 (fun g hg e=>by have:=(hO1.blk hg).1;omega)).lower (by omega)
 have hb10:Below w.heap.size w (w9.setCell ⟨w.heap.size,0,none⟩ (.slice oa t.nodes oc)):=hb9.trans (F10.below (by omega) (fun b e=>by omega))
 have HOO:Hid (OwnT (w9.setCell ⟨w.heap.size,0,none⟩ (.slice oa t.nodes oc)) w.heap.size (.slice oa t.nodes oc) ((t.flat 0).map TN.nd) us):=hO2
 have x10:(w9.setCell ⟨w.heap.size,0,none⟩ (.slice oa t.nodes oc)).cell? ⟨w.heap.size,0,none⟩=some (.slice oa t.nodes oc):=by simp [World.cell?,World.setCell,Array.getElem?_modify,hx9]
 clear hO hO1 hO2 hF hx F10 hx9
 go_wp2_with fail
 exact bodyPost_ret (v:=.agg #[.slice oa t.nodes oc]) (by simp [results,Tryz.results22,go_sem,x10]) rfl ⟨oa,oc,us,rfl,HOO.out,hb10⟩
theorem own_setCellsX {base g n c e size:Nat}:∀ (vs:List Value) (o:Nat) (w:World) (xs:List Value),w.ownsRow base e size (.slice (some ⟨g,0,none⟩) n c) n xs->∃ ys,(w.setCells g o vs).ownsRow base e size (.slice (some ⟨g,0,none⟩) n c) n ys∧ys.take o=xs.take o∧Fr (fun x=>x=g) w (w.setCells g o vs)
 | [],o,w,xs,h=>⟨xs,h,rfl,Fr.refl _ _⟩
 | v::r,o,w,xs,h=>by
  obtain ⟨h1,h2⟩:=h.stored o v
  obtain ⟨ys,h3,h4,h5⟩:=own_setCellsX r (o+1) (w.setCell ⟨g,o,none⟩ v) _ h1
  refine ⟨ys,h3,?_,(Fr.of_grown h2 (fun x e=>by cases e;rfl)).trans h5⟩
  have:=congrArg (List.take o) h4
  rw [List.take_take,List.take_take,show min o (o+1)=o by omega] at this
  rw [this,List.take_set_of_le (Nat.le_refl _)]
theorem own_cutX {w:World} {base g n c e size i:Nat} {xs:List Value} (h:w.ownsRow base e size (.slice (some ⟨g,0,none⟩) n c) n xs) (hi:i<=n):w.ownsRow base e size (.slice (some ⟨g,0,none⟩) i c) i (xs.take (i*size)):=by
 have hm:i*size<=n*size:=Nat.mul_le_mul_right _ hi
 refine ⟨by rw [List.length_take,h.1];omega,.inr ?_⟩
 rcases h.2 with ⟨h',_⟩ | ⟨g',cap,cur,e1,h1,h2,h3,h4,h5,h6⟩
 ·simp at h'
 ·injection e1 with e1 e2 e3
  cases e1
  subst e3
  refine ⟨g,c,cur,rfl,h1,h2,by omega,h4,h5,?_⟩
  rw [<-h6,List.take_take,Nat.min_eq_left hm]
theorem del_take {α:Type} (C xs:List α) (p q n:Nat) (hxl:xs.length=n) (hC:C.take n=xs) (hp:p+q<=n) (hCn:n<=C.length) :
  (C.take p++xs.drop (p+q)++C.drop (p+(xs.drop (p+q)).length)).take (n - q)=xs.take p++xs.drop (p+q)∧(C.take p++xs.drop (p+q)++C.drop (p+(xs.drop (p+q)).length)).length=C.length:=by
 have h0:C.take p=xs.take p:=by
  have:=congrArg (List.take p) hC
  rwa [List.take_take,Nat.min_eq_left (by omega)] at this
 constructor
 ·rw [h0,List.take_append_of_le_length (by simp;omega),List.take_of_length_le (by simp;omega)]
 ·simp;omega
theorem step_append_runX {P:Program} {ops:Array Oper} {o:Oper} {a:Act} {w:World} {K:Act->World->Prop} {Q:Exit->Act->World->Prop} {E:Prop}
  (hg:o.guard=none) (s x:Operand) (t:TypeId) (hop:o.op=Op.call { callee:=Callee.builtin Builtin.append,args:=#[s,x],argTypes:=#[t,t] })
  (v u:Value) (hs:a.eval s=v) (hx:a.eval x=u) {v':Value} {w':World} (hr:(Builtin.append_ #[t,t] o.type #[v,u]).run P w=.ok v' w') (hK:K (a.put o.dst v') w') :
  if Region.wanted o (yielded ops a.tmps)=true then Oper.wp P o a w K Q else E:=by
 have hw:Region.wanted o (yielded ops a.tmps)=true:=by simp [Region.wanted,hg]
 rw [if_pos hw]
 unfold Oper.wp
 simp [execOp,hop,resolve,invoke,builtin,hs,hx,hr,Result.andThen]
 exact hK
theorem zeroSlot:(Builtin.zeroCells #[.string ⟨#[]⟩,.string ⟨#[]⟩,.int .i64 0] 1).toList=[.string ⟨#[]⟩,.string ⟨#[]⟩,.int .i64 0]:=by
 simp [Builtin.zeroCells]
 rfl
theorem run_clearSlot (w:World) (ty:TypeId) (b o c:Nat) (hc:∀ j,j<3->(w.cell? ⟨b,o+j,none⟩).isSome=true) (hf:∀ j,j<3->w.frozen? ⟨b,o+j,none⟩=false) :
  (Builtin.clear_ #[89] ty #[.slice (some ⟨b,o,none⟩) 1 c]).run Tryz.prog w=.ok (.tuple #[]) (w.setCells b o [.string ⟨#[]⟩,.string ⟨#[]⟩,.int .i64 0]):=by
 have hst:=run_storeCells_cells (P:=Tryz.prog) b o [.string ⟨#[]⟩,.string ⟨#[]⟩,.int .i64 0] 0 w (by simpa using hc) (by simpa using hf) (by intro v hv;simp at hv;rcases hv with rfl | rfl | rfl<;>rfl)
 simp only [Nat.add_zero] at hst
 rw [<-zeroSlot] at hst ⊢
 simp [Builtin.clear_,run_underlying Tryz.underlying89,Value.cells,hst]
theorem deleteSlot_any (i m c:Nat) (a:Option Addr) (xs:List Value) (w:World) (hrow:w.ownsRow 0 111 3 (.slice a (m+1) c) (m+1) xs) (hi:i<=m) (hn:m<=1000) (h1:∀ u ∈ xs,u.oneCell'=true) :
  Calls Tryz.prog 116 #[.slice a (m+1) c,.int .i64 i,.int .i64 ((i:Int)+1)] w fun e w'=>e=.returned (.slice a m c)∧w'.ownsRow 0 111 3 (.slice a m c) m (xs.take (i*3)++xs.drop ((i+1)*3))∧Fr (fun g=>(Value.slice a (m+1) c).ownBlock=some g) w w':=by
 obtain ⟨i0,hi0,hz0,hz1,hz2⟩:=info_parts info_slot
 have hxl:=hrow.1
 rcases hrow.2 with ⟨e,e2⟩ | ⟨b,cap,cur,e,_,hg,hnc,hcm,hcs,htk⟩
 ·omega
 simp only [Value.slice.injEq] at e
 obtain ⟨rfl,_,rfl⟩:=e
 have hadd:∀ (b o k:Nat),(⟨b,o,none⟩:Addr).add k=⟨b,o+k,none⟩:=fun b o k=>by simp [Addr.add]
 obtain ⟨R1,hR1⟩:∃ R1:Array Value,(cur.toList.take (i*3)++xs.drop ((i+1)*3)++cur.toList.drop (i*3+(xs.drop ((i+1)*3)).length)).toArray=R1:=⟨_,rfl⟩
 have hdt:=del_take cur.toList xs (i*3) 3 ((m+1)*3) (by omega) htk (by omega) (by simp [hcs];omega)
 rw [show i*3+3=(i+1)*3 by omega] at hdt
 have hRl:R1.size=c*3:=by rw [<-hR1];simpa [hcs] using hdt.2
 have hRt:R1.toList.take (m*3)=xs.take (i*3)++xs.drop ((i+1)*3):=by rw [<-hR1];have:=hdt.1;rw [show (m+1)*3 - 3=m*3 by omega] at this;exact this
 have hg1:(w.drew.setRow b R1).heap[b]?=some (.cells R1 111):=setRow_heap w.drew b cur R1 _ _ hg
 have hbl:b<w.heap.size:=(Array.getElem?_eq_some_iff.1 hg).1
 have hdl:(xs.drop ((i+1)*3)).length=(m - i)*3:=by rw [List.length_drop,hxl];omega
 have hap:∀ ty (A:Addr) cc,(i<m->A=⟨b,(i+1)*3,none⟩)->(Builtin.append_ #[89,89] ty #[.slice (some ⟨b,0,none⟩) i c,.slice (some A) (m - i) cc]).run Tryz.prog w.drew=.ok (.slice (some ⟨b,0,none⟩) m c) (w.drew.setRow b R1):=fun ty A cc hA=>by
  have h:=run_append_room (P:=Tryz.prog) (w:=w.drew) 89 ty 111 i0 Tryz.underlying89 hi0 b i c cur hg A (m - i) cc (xs.drop ((i+1)*3)) (by rw [hz1,hdl]) (fun j u hj=>by
   have hjl:=(List.getElem?_eq_some_iff.1 hj).1
   rw [hdl] at hjl
   rw [hA (by omega),hadd]
   rw [List.getElem?_drop] at hj
   have:=hrow.cellAt ((i+1)*3+j) (by omega)
   exact this.trans hj) (fun u hu=>h1 u (List.mem_of_mem_drop hu)) (by omega) (by rw [hz1,hdl,hcs];omega)
  rw [hz1,hR1,show i+(m - i)=m by omega] at h
  exact h
 have hr1:(w.drew.setRow b R1).ownsRow 0 111 3 (.slice (some ⟨b,0,none⟩) (m+1) c) (m+1) (R1.toList.take ((m+1)*3)):=⟨by rw [List.length_take,Array.length_toList,hRl];omega,.inr ⟨b,c,R1,rfl,Nat.zero_le _,hg1,hnc,hcm,hRl,rfl⟩⟩
 have hcl:∀ ty cc,(Builtin.clear_ #[89] ty #[.slice (some ⟨b,m*3,none⟩) 1 cc]).run Tryz.prog (w.drew.setRow b R1)=.ok (.tuple #[]) ((w.drew.setRow b R1).setCells b (m*3) [.string ⟨#[]⟩,.string ⟨#[]⟩,.int .i64 0]):=fun ty cc =>
  run_clearSlot _ ty b (m*3) cc (fun j hj=>by rw [hr1.cellAt _ (by omega),List.getElem?_eq_getElem (by rw [List.length_take,Array.length_toList,hRl];omega)];rfl) (fun j hj=>hr1.frozenAt _)
 obtain ⟨ys,q1,q2,q3⟩:=own_setCellsX [.string ⟨#[]⟩,.string ⟨#[]⟩,.int .i64 0] (m*3) _ _ hr1
 have q4:=own_cutX q1 (show m<=m+1 by omega)
 rw [q2,List.take_take,Nat.min_eq_left (by omega),hRt] at q4
 have f1:Fr (fun g=>(Value.slice (some ⟨b,0,none⟩) (m+1) c).ownBlock=some g) w (w.drew.setRow b R1):=⟨rfl,rfl,rfl,by simp,fun k hk hkb=>by
  have hkb2:k≠b:=fun e=>hkb (by rw [e];rfl)
  rw [setRow_other _ b k R1 hkb2];rfl⟩
 have f2:=f1.trans (q3.weak (T:=fun g=>(Value.slice (some ⟨b,0,none⟩) (m+1) c).ownBlock=some g) (fun x e=>by subst e;rfl))
 have hc63:=hcm
 unfold maxLen at hc63
 have HF:Hid (((w.drew.setRow b R1).setCells b (m*3) [.string ⟨#[]⟩,.string ⟨#[]⟩,.int .i64 0]).ownsRow 0 111 3 (.slice (some ⟨b,0,none⟩) m c) m (xs.take (i*3)++xs.drop ((i+1)*3))∧Fr (fun g=>(Value.slice (some ⟨b,0,none⟩) (m+1) c).ownBlock=some g) w ((w.drew.setRow b R1).setCells b (m*3) [.string ⟨#[]⟩,.string ⟨#[]⟩,.int .i64 0])):=⟨q4,f2⟩
 clear q1 q2 q3 q4 f1 f2 hr1 hdt hRl hRt hg1 hdl hrow hg hcs htk hxl h1 ys hR1 hz0 hz1 hz2 hi0 hadd
 have hne:¬ ((i:Int)=(i:Int)+1):=by omega
 have hle:(i:Int)+1<=(m:Int)+1:=by omega
 have hle0:(i:Int)<=(m:Int)+1:=by omega
 have htn:((i:Int)+1).toNat=i+1:=by omega
 have htm:((m:Int)+1).toNat=m+1:=by omega
 have h0i:(0:Int)<=(i:Int)+1:=by omega
 have hmc:¬ (c=m):=by omega
 have hsub:m+1 - (i+1)=m - i:=by omega
 have hsub1:m+1 - m=1:=by omega
 have hi1:i<=i+1:=by omega
 have hic:i<=c:=by omega
 have him:i+1<=m+1:=by omega
 have hil:(i:Int)<=(i:Int)+1:=by omega
 by_cases hci:c=i+1
 ·have hmi:m=i:=by omega
  have hap2:∀ ty cc,_:=fun ty cc=>hap ty ⟨b,0,none⟩ cc (fun h=>by omega)
  subst hmi
  subst hci
  clear hap
  simp only [Nat.sub_self] at hap2
  go_enter Tryz.func116,Tryz.ntmps116
  go_wp2_with fail
  go_region_law (refine step_append_runX rfl _ _ 89 rfl (.slice (some ⟨b,0,none⟩) m (m+1)) (.slice (some ⟨b,0,none⟩) 0 0) (by simp [Act.eval,Act.put]) (by simp [Act.eval,Act.put]) (hap2 _ _) ?_)
  go_wp2_with (simp only [hcl])
  go_ret
  exact ⟨rfl,HF.out⟩
 ·have hap2:∀ ty cc,_:=fun ty cc=>hap ty ⟨b,(i+1)*3,none⟩ cc (fun h=>rfl)
  clear hap
  go_enter Tryz.func116,Tryz.ntmps116
  go_wp2_with fail
  go_region_law (refine step_append_runX rfl _ _ 89 rfl (.slice (some ⟨b,0,none⟩) i c) (.slice (some ⟨b,(i+1)*3,none⟩) (m - i) (c - (i+1))) (by simp [Act.eval,Act.put]) (by simp [Act.eval,Act.put]) (hap2 _ _) ?_)
  go_wp2_with (simp only [hcl])
  go_ret
  exact ⟨rfl,HF.out⟩
theorem zeroNode:(Builtin.zeroCells #[.nilIface] 1).toList=[.nilIface]:=by
 simp [Builtin.zeroCells]
theorem run_clearNode (w:World) (ty:TypeId) (b o c:Nat) (hc:∀ j,j<1->(w.cell? ⟨b,o+j,none⟩).isSome=true) (hf:∀ j,j<1->w.frozen? ⟨b,o+j,none⟩=false) :
  (Builtin.clear_ #[98] ty #[.slice (some ⟨b,o,none⟩) 1 c]).run Tryz.prog w=.ok (.tuple #[]) (w.setCells b o [.nilIface]):=by
 have hst:=run_storeCells_cells (P:=Tryz.prog) b o [.nilIface] 0 w (by simpa using hc) (by simpa using hf) (by intro v hv;simp at hv;subst hv;rfl)
 simp only [Nat.add_zero] at hst
 rw [<-zeroNode] at hst ⊢
 simp [Builtin.clear_,run_underlying Tryz.underlying98,Value.cells,hst]
theorem deleteNode_any (i m c:Nat) (a:Option Addr) (xs:List Value) (w:World) (hrow:w.ownsRow 0 54 1 (.slice a (m+1) c) (m+1) xs) (hi:i<=m) (hn:m<=1000) (h1:∀ u ∈ xs,u.oneCell'=true) :
  Calls Tryz.prog 103 #[.slice a (m+1) c,.int .i64 i,.int .i64 ((i:Int)+1)] w fun e w'=>e=.returned (.slice a m c)∧w'.ownsRow 0 54 1 (.slice a m c) m (xs.take (i)++xs.drop ((i+1)))∧Fr (fun g=>(Value.slice a (m+1) c).ownBlock=some g) w w':=by
 obtain ⟨i0,hi0,hz0,hz1,hz2⟩:=info_parts info_node
 have hxl:=hrow.1
 rcases hrow.2 with ⟨e,e2⟩ | ⟨b,cap,cur,e,_,hg,hnc,hcm,hcs,htk⟩
 ·omega
 simp only [Value.slice.injEq] at e
 obtain ⟨rfl,_,rfl⟩:=e
 have hadd:∀ (b o k:Nat),(⟨b,o,none⟩:Addr).add k=⟨b,o+k,none⟩:=fun b o k=>by simp [Addr.add]
 obtain ⟨R1,hR1⟩:∃ R1:Array Value,(cur.toList.take (i*1)++xs.drop ((i+1)*1)++cur.toList.drop (i*1+(xs.drop ((i+1)*1)).length)).toArray=R1:=⟨_,rfl⟩
 have hdt:=del_take cur.toList xs (i*1) 1 ((m+1)*1) (by omega) htk (by omega) (by simp [hcs];omega)
 rw [show i*1+1=(i+1)*1 by omega] at hdt
 have hRl:R1.size=c*1:=by rw [<-hR1];simpa [hcs] using hdt.2
 have hRt:R1.toList.take (m*1)=xs.take (i*1)++xs.drop ((i+1)*1):=by rw [<-hR1];have:=hdt.1;rw [show (m+1)*1 - 1=m*1 by omega] at this;exact this
 have hg1:(w.drew.setRow b R1).heap[b]?=some (.cells R1 54):=setRow_heap w.drew b cur R1 _ _ hg
 have hbl:b<w.heap.size:=(Array.getElem?_eq_some_iff.1 hg).1
 have hdl:(xs.drop ((i+1)*1)).length=(m - i)*1:=by rw [List.length_drop,hxl];omega
 have hap:∀ ty (A:Addr) cc,(i<m->A=⟨b,(i+1)*1,none⟩)->(Builtin.append_ #[98,98] ty #[.slice (some ⟨b,0,none⟩) i c,.slice (some A) (m - i) cc]).run Tryz.prog w.drew=.ok (.slice (some ⟨b,0,none⟩) m c) (w.drew.setRow b R1):=fun ty A cc hA=>by
  have h:=run_append_room (P:=Tryz.prog) (w:=w.drew) 98 ty 54 i0 Tryz.underlying98 hi0 b i c cur hg A (m - i) cc (xs.drop ((i+1)*1)) (by rw [hz1,hdl]) (fun j u hj=>by
   have hjl:=(List.getElem?_eq_some_iff.1 hj).1
   rw [hdl] at hjl
   rw [hA (by omega),hadd]
   rw [List.getElem?_drop] at hj
   have:=hrow.cellAt ((i+1)*1+j) (by omega)
   exact this.trans hj) (fun u hu=>h1 u (List.mem_of_mem_drop hu)) (by omega) (by rw [hz1,hdl,hcs];omega)
  rw [hz1,hR1,show i+(m - i)=m by omega] at h
  exact h
 have hr1:(w.drew.setRow b R1).ownsRow 0 54 1 (.slice (some ⟨b,0,none⟩) (m+1) c) (m+1) (R1.toList.take ((m+1)*1)):=⟨by rw [List.length_take,Array.length_toList,hRl];omega,.inr ⟨b,c,R1,rfl,Nat.zero_le _,hg1,hnc,hcm,hRl,rfl⟩⟩
 have hcl:∀ ty cc,(Builtin.clear_ #[98] ty #[.slice (some ⟨b,m*1,none⟩) 1 cc]).run Tryz.prog (w.drew.setRow b R1)=.ok (.tuple #[]) ((w.drew.setRow b R1).setCells b (m*1) [.nilIface]):=fun ty cc =>
  run_clearNode _ ty b (m*1) cc (fun j hj=>by rw [hr1.cellAt _ (by omega),List.getElem?_eq_getElem (by rw [List.length_take,Array.length_toList,hRl];omega)];rfl) (fun j hj=>hr1.frozenAt _)
 obtain ⟨ys,q1,q2,q3⟩:=own_setCellsX [.nilIface] (m*1) _ _ hr1
 have q4:=own_cutX q1 (show m<=m+1 by omega)
 rw [q2,List.take_take,Nat.min_eq_left (by omega),hRt] at q4
 have f1:Fr (fun g=>(Value.slice (some ⟨b,0,none⟩) (m+1) c).ownBlock=some g) w (w.drew.setRow b R1):=⟨rfl,rfl,rfl,by simp,fun k hk hkb=>by
  have hkb2:k≠b:=fun e=>hkb (by rw [e];rfl)
  rw [setRow_other _ b k R1 hkb2];rfl⟩
 have f2:=f1.trans (q3.weak (T:=fun g=>(Value.slice (some ⟨b,0,none⟩) (m+1) c).ownBlock=some g) (fun x e=>by subst e;rfl))
 have hc63:=hcm
 unfold maxLen at hc63
 simp only [Nat.mul_one] at hap hcl q4 f2
 have HF:Hid (((w.drew.setRow b R1).setCells b (m) [.nilIface]).ownsRow 0 54 1 (.slice (some ⟨b,0,none⟩) m c) m (xs.take (i)++xs.drop ((i+1)))∧Fr (fun g=>(Value.slice (some ⟨b,0,none⟩) (m+1) c).ownBlock=some g) w ((w.drew.setRow b R1).setCells b (m) [.nilIface])):=⟨q4,f2⟩
 clear q1 q2 q3 q4 f1 f2 hr1 hdt hRl hRt hg1 hdl hrow hg hcs htk hxl h1 ys hR1 hz0 hz1 hz2 hi0 hadd
 have hne:¬ ((i:Int)=(i:Int)+1):=by omega
 have hle:(i:Int)+1<=(m:Int)+1:=by omega
 have hle0:(i:Int)<=(m:Int)+1:=by omega
 have htn:((i:Int)+1).toNat=i+1:=by omega
 have htm:((m:Int)+1).toNat=m+1:=by omega
 have h0i:(0:Int)<=(i:Int)+1:=by omega
 have hmc:¬ (c=m):=by omega
 have hsub:m+1 - (i+1)=m - i:=by omega
 have hsub1:m+1 - m=1:=by omega
 have hi1:i<=i+1:=by omega
 have hic:i<=c:=by omega
 have him:i+1<=m+1:=by omega
 have hil:(i:Int)<=(i:Int)+1:=by omega
 by_cases hci:c=i+1
 ·have hmi:m=i:=by omega
  have hap2:∀ ty cc,_:=fun ty cc=>hap ty ⟨b,0,none⟩ cc (fun h=>by omega)
  subst hmi
  subst hci
  clear hap
  simp only [Nat.sub_self] at hap2
  go_enter Tryz.func103,Tryz.ntmps103
  go_wp2_with fail
  go_region_law (refine step_append_runX rfl _ _ 98 rfl (.slice (some ⟨b,0,none⟩) m (m+1)) (.slice (some ⟨b,0,none⟩) 0 0) (by simp [Act.eval,Act.put]) (by simp [Act.eval,Act.put]) (hap2 _ _) ?_)
  go_wp2_with (simp only [hcl])
  go_ret
  exact ⟨rfl,HF.out⟩
 ·have hap2:∀ ty cc,_:=fun ty cc=>hap ty ⟨b,(i+1),none⟩ cc (fun h=>rfl)
  clear hap
  go_enter Tryz.func103,Tryz.ntmps103
  go_wp2_with fail
  go_region_law (refine step_append_runX rfl _ _ 98 rfl (.slice (some ⟨b,0,none⟩) i c) (.slice (some ⟨b,(i+1),none⟩) (m - i) (c - (i+1))) (by simp [Act.eval,Act.put]) (by simp [Act.eval,Act.put]) (hap2 _ _) ?_)
  go_wp2_with (simp only [hcl])
  go_ret
  exact ⟨rfl,HF.out⟩
abbrev dP:ByteArray × ByteArray:=(ByteArray.empty,ByteArray.empty)
def okAt (zs:List (ByteArray × ByteArray)) (j:Nat):Bool:=kyB (zs.getD j dP).1 && decide ((zs.getD j dP).2.size<=400) && (decide (j=0) || lessB (zs.getD (j - 1) dP).1 (zs.getD j dP).1)
def bulkOk (zs:List (ByteArray × ByteArray)):Bool:=(List.range zs.length).all (okAt zs)
def bulkNs (zs:List (ByteArray × ByteArray)):List TN:=if bulkOk zs=false then [] else if zs.length=0 then [⟨true,0,[],[],[],[]⟩] else if 1000<(rootT zs).nodes then [] else (rootT zs).flat 0
def BulkAns (w:World) (zs:List (ByteArray × ByteArray)) (e:Ending) (w':World):Prop:=∃ oa oc us,e=.returned (.agg #[.slice oa (bulkNs zs).length oc])∧OwnT w' w.heap.size (.slice oa (bulkNs zs).length oc) ((bulkNs zs).map TN.nd) us∧Below w.heap.size w w'
def dS:ByteArray × ByteArray × Int:=(ByteArray.empty,ByteArray.empty,0)
abbrev PairsAt (w:World) (A B:Nat) (a:Option Addr) (n c:Nat) (zs:List (ByteArray × ByteArray × Int)):Prop:=RowsAt w A B 2 prCells (fun _=>True) dS a n c zs
def mkZs (k n:Nat):List (ByteArray × ByteArray × Int):=(List.range n).map fun j=>(mkS (k+2*j),mkS (k+2*j+1),0)
end Go.Proofs.YtbfggcekifaldaaGreat
