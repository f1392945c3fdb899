import Derived.Test.YtkhglgalbifcnaaGreatGAU
import Derived.Test.YtkhglgalbifcnaaGreatGAX
namespace Go.Proofs.YtkhglgalbifcnaaGreat
open Go.RowKit
set_option linter.unusedVariables false
set_option linter.unusedSimpArgs false
set_option maxRecDepth 100000
def chunksF {α:Type}:Nat->List α->List (List α)
 | 0,_=>[]
 | f+1,l=>if l=[] then [] else l.take (shareN l.length)::chunksF f (l.drop (shareN l.length))
def chunks {α:Type} (l:List α):List (List α):=chunksF l.length l
def leafB (zs:List (ByteArray × ByteArray)):T:=⟨true,0,zs.map (fun z=>z.1),zs.map (fun z=>z.2),zs.map (fun _=>0),[]⟩
def slB (zs:List (ByteArray × ByteArray)):List (ByteArray × ByteArray × Int):=zs.map (fun z=>(z.1,z.2,0))
def PrAt (w:World) (B:Nat) (a:Option Addr) (n c:Nat) (zs:List (ByteArray × ByteArray)):Prop:=zs.length=n∧n<=c∧c<=maxLen∧(0<n->∃ b off,a=some ⟨b,off,none⟩∧b<B∧∀ i,i<n->w.cell? ⟨b,off+i*2,none⟩=some (.string (zs.getD i (ByteArray.empty,ByteArray.empty)).1)∧w.cell? ⟨b,off+i*2+1,none⟩=some (.string (zs.getD i (ByteArray.empty,ByteArray.empty)).2))
structure FlSt (W wr:World) (L j:Nat) (ha:Option Addr) (hc:Nat) (zs:List (ByteArray × ByteArray × Int)):Prop where
 box:wr.heap[L]?=some (.cells #[.int .i64 0,.slice ha j hc] 142)
 row:wr.ownsRow (L+1) 134 3 (.slice ha j hc) j (rowsOf slCells zs)
 len:zs.length=j
 bel:Below L W wr
structure LvSt (w0 wr:World) (lo m c:Nat) (a:Option Addr) (ts:List T) (us:List Value):Prop where
 row:wr.ownsRow lo 61 1 (.slice a m c) m us
 len:ts.length=m
 node:∀ (i:Nat) (t:T),ts[i]?=some t->∃ u,us[i]?=some u∧GIs wr (fun b=>lo<=b∧b<wr.heap.size∧(Value.slice a m c).ownBlock≠some b) t u
 bel:Below lo w0 wr
def ShAt (W:World) (sa:Option Addr) (xs:List Int):Prop:=∀ k,k<xs.length->∃ g,sa=some ⟨g,0,none⟩∧g<W.heap.size∧W.cell? ⟨g,k,none⟩=some (.int .i64 (xs.getD k 0))
def innB (ks:List T):T:=⟨false,0,[],[],[],ks⟩
def upT (ts:List T):List T:=(chunks ts).map innB
def topF:Nat->List T->List T
 | 0,ts=>ts
 | f+1,ts=>if 1<ts.length then topF f (upT ts) else ts
def lvlB (zs:List (ByteArray × ByteArray)):List T:=(chunks zs).map leafB
def rootT (zs:List (ByteArray × ByteArray)):T:=(topF zs.length (lvlB zs)).headD (leafB [])
def sumN (ts:List T):Nat:=(ts.map T.nodes).sum
structure LvOk (n:Nat) (ts:List T):Prop where
 pos:0<ts.length
 le:ts.length<=n
 sum:sumN ts+ts.length<=2*n
 all:∀ t ∈ ts,t.whole=true∧0<t.size
set_option maxHeartbeats 1000000 in
theorem told_any {t:T} {ty:TypeId} {v:Value} {P:Nat->Prop} (w:World) (hw:t.whole=true) (hG:GIs w P t (.iface ty v)) (hP:∀ b,P b->b<w.heap.size) (hn:t.nodes<=10000000) :
  Calls Tryz.prog 28 #[.iface ty v] w fun e w'=>∃ oa oc us,e=.returned (.agg #[.slice oa t.nodes oc])∧OwnT w' w.heap.size (.slice oa t.nodes oc) ((t.flat 0).map TN.nd) us∧Below w.heap.size w w':=by
 obtain⟨W,hW⟩:∃ W,W=w.alloc (.cells #[.slice none 0 0] 29):=⟨_,rfl⟩
 have hb1:Below w.heap.size w W:=by rw[hW];exact (Below.refl _ _).alloc (Nat.le_refl _) _
 have hs1:W.heap.size=w.heap.size+1:=by rw[hW];simp
 have hx:W.heap[w.heap.size]?=some (.cells #[.slice none 0 0] 29):=by rw[hW];exact heap_alloc_new w _
 have hG1:GIs W (fun b=>b<w.heap.size) t (.iface ty v):=GIs.keep (fun b hp=>hb1.block b (hP b hp)) hP t _ hG
 obtain⟨ha,f,r,hmt,hcf,hcall⟩:=GIs.tell (base:=W.heap.size) (P:=fun b=>b<w.heap.size) (fun b hp=>by have:b<w.heap.size:=hp;omega) t ty v hw hG1
 have hcall2:=hcall W (Below.refl _ _) none 0 0 [] (fun _ _=>.slice none 0 0) (OwnT.nil _ _ _) rfl (by omega) (Nat.le_refl _)
 have hcf2:=hcf (.slice none 0 0)
 clear hcall hcf hG1 hG
 go_enter Tryz.func28,Tryz.ntmps28
 go_upto_region 1 with fail
 rw[<-hW]
 have HS1:Hid (W.heap.size=w.heap.size+1):=hs1
 clear hW hs1
 go_wp2_with fail
 refine hcall2.mono ?_
 rintro ex w9 ⟨oa,oc,us,rfl,hO,hF⟩
 have hO1:OwnT w9 (w.heap.size+1) (.slice oa t.nodes oc) ((t.flat 0).map TN.nd) us:=by rw[HS1.out,Nat.zero_add,List.nil_append] at hO;exact hO
 rw[Nat.zero_add]
 have hx9:=boxT_fr hx hF (by have:=HS1.out;omega)
 have hl9:=(Array.getElem?_eq_some_iff.1 hx9).1
 have c9:w9.cell? ⟨w.heap.size,0,none⟩=some (.slice none 0 0):=by simp[World.cell?,hx9]
 have z9:=box_fz hx9 0
 have hb9:Below w.heap.size w w9:=hb1.trans (hF.below (by have:=HS1.out;omega) (fun b e=>by have:=HS1.out;omega))
 have F10:=fr_setT w9 w.heap.size 0 (.slice oa t.nodes oc)
 have hO2:OwnT (w9.setCell ⟨w.heap.size,0,none⟩ (.slice oa t.nodes oc)) w.heap.size (.slice oa t.nodes oc) ((t.flat 0).map TN.nd) us:=(hO1.fr F10 (fun g hg e=>by have:=(hO1.blk hg).1;omega)).lower (by omega)
 have hb10:Below w.heap.size w (w9.setCell ⟨w.heap.size,0,none⟩ (.slice oa t.nodes oc)):=hb9.trans (F10.below (by omega) (fun b e=>by omega))
 have HOO:Hid (OwnT (w9.setCell ⟨w.heap.size,0,none⟩ (.slice oa t.nodes oc)) w.heap.size (.slice oa t.nodes oc) ((t.flat 0).map TN.nd) us):=hO2
 have x10:(w9.setCell ⟨w.heap.size,0,none⟩ (.slice oa t.nodes oc)).cell? ⟨w.heap.size,0,none⟩=some (.slice oa t.nodes oc):=by simp[World.cell?,World.setCell,Array.getElem?_modify,hx9]
 clear hO hO1 hO2 hF hx F10 hx9
 go_wp2_with fail
 exact bodyPost_ret (v:=.agg #[.slice oa t.nodes oc]) (by simp[results,Tryz.results28,go_sem,x10]) rfl ⟨oa,oc,us,rfl,HOO.out,hb10⟩
theorem ta_ll (v:Value) (W:World):(Instr.typeAssert (.iface 120 v) 61 120 true).run Tryz.prog W=.ok (.tuple #[v,.bool true]) W:=by kernel_rfl
theorem ta_il (v:Value) (W:World):(Instr.typeAssert (.iface 122 v) 61 120 true).run Tryz.prog W=.ok (.tuple #[.pointer none,.bool false]) W:=by kernel_rfl
theorem ta_ii (v:Value) (W:World):(Instr.typeAssert (.iface 122 v) 61 122 true).run Tryz.prog W=.ok (.tuple #[v,.bool true]) W:=by kernel_rfl
def PartAns (w:World) (P:Nat->Prop) (t:T) (k:Nat) (u:Value) (e:Ending) (w':World):Prop:=∃ u2,e=.returned u2∧(∃ P1 P2:Nat->Prop,GM w' P1 (t.fore k) u∧GM w' P2 (t.rest k) u2∧(∀ b,P1 b->¬ P2 b)∧∀ b,P1 b∨P2 b->(P b∨w.heap.size<=b)∧b<w'.heap.size)∧Fr P w w'
def Wider (w w':World) (P:Nat->Prop):Nat->Prop:=fun b=>(P b∨w.heap.size<=b)∧b<w'.heap.size
def PutOk (key val:ByteArray) (k:T):Prop:=∀ (w:World) (P:Nat->Prop) (ty:TypeId) (v:Value),GM w P k (.iface ty v)->(∀ b,P b->b<w.heap.size)->(∀ w,(nilAhead 297 ty v "loop.example/s02098/impl.put").run Tryz.prog w=.ok (some false) w)∧∃ f r,(∀ w,(method 297 ty v "loop.example/s02098/impl.put").run Tryz.prog w=.ok (f,r) w)∧(∀ x w,(callFunc f #[r,x]).run Tryz.prog w=.ok (.enter f #[r,x]) w)∧Calls Tryz.prog f #[r,.agg #[.string key,.string val,.int .i64 0]] w fun e w'=>PutAns w P (putT key val k) (.iface ty v) e w'
end Go.Proofs.YtkhglgalbifcnaaGreat
