import Derived.Test.YtbfggcekifaldaaGreatHTfa
namespace Go.Proofs.YtbfggcekifaldaaGreat
open Go.RowKit
set_option linter.unusedVariables false
set_option linter.unusedSimpArgs false
set_option maxRecDepth 100000
def slotV:Option (ByteArray × ByteArray × Int)->Value
 | some s=>.agg #[.string s.1,.string s.2.1,.int .i64 s.2.2]
 | none=>.agg #[.string ByteArray.empty,.string ByteArray.empty,.int .i64 0]
def FindAns (s:Option (ByteArray × ByteArray × Int)) (w:World) (e:Ending) (w':World):Prop:=e=.returned (.tuple #[slotV s,.bool s.isSome])∧Below w.heap.size w w'
def put3G (w:World) (N:Nat) (u0 u1 u2:Value):World:=((w.setCell ⟨N,0,none⟩ u0).setCell ⟨N,1,none⟩ u1).setCell ⟨N,2,none⟩ u2
theorem leafSearch_any {w:World} {P:Nat->Prop} {t:T} {L:Nat} {a:Option Addr} {n c:Nat} (h:GLeaf w P t L a n c) (hs:SortT (t.keys.zip (t.vals.zip t.over))) (hn:n<=1000) (key:ByteArray):Calls Tryz.prog 115 #[.pointer (some ⟨L,0,none⟩),.string key] w fun e w'=>SearchAns (t.keys.zip (t.vals.zip t.over)) key w e w':=by
 obtain⟨c0,c1⟩:=box_twoG h.box
 have hlt:L<w.heap.size:=(Array.getElem?_eq_some_iff.1 h.box).1
 have hc:=binSearch_any _ (asc_of_sort hs) key P a n c w h.row hn
 clear h hs
 generalize t.keys.zip (t.vals.zip t.over)=zs at *
 go_enter Tryz.func115,Tryz.ntmps115
 go_wp2_with fail
 refine hc.mono ?_
 rintro e w1 ⟨i,b,rfl,h1,h2,h3,hb⟩
 have H3:Hid _:=h3
 have H1:Hid _:=h1
 have H2:Hid _:=h2
 clear hc h1 h2 h3
 go_wp2_with fail
 refine bodyPost_ret (v:=.tuple #[.int .i64 i,.bool b]) (by simp[results,Tryz.results115,go_sem]) rfl ?_
 exact⟨i,b,rfl,H1.out,H2.out,H3.out,hb⟩
set_option maxHeartbeats 1000000 in
theorem toward_any {w:World} {P:Nat->Prop} {t:T} {L:Nat} {a:Option Addr} {n c:Nat} {us:Nat->Value} (h:GInner w P t L a n c us) (hn:0<n) (hn4:n<=1000) (hk:∀ i k,t.kids[i]?=some k->∃ ty v,us i=.iface ty v∧Obs w ty v "loop.example/s02098/impl.least" (.string k.low)) (key:ByteArray) :
  Calls Tryz.prog 98 #[.pointer (some ⟨L,0,none⟩),.string key] w fun e w'=>∃ m:Nat,e=.returned (.int .i64 m)∧TowardIs t key m∧w'=w:=by
 obtain⟨c0,c1⟩:=box_twoG h.box
 have hlt:L<w.heap.size:=(Array.getElem?_eq_some_iff.1 h.box).1
 have HN:Hid (n=t.kids.length):=h.len.1
 obtain⟨b,rfl,hpb,hcc⟩:=h.row hn
 have HC:Hid (∀ i,i<n->w.cell? ⟨b,i,none⟩=some (us i)):=hcc
 have hbl:=lt_of_cellG (hcc 0 hn)
 have HK:Hid (∀ i k,t.kids[i]?=some k->∃ ty v,us i=.iface ty v∧Obs w ty v "loop.example/s02098/impl.least" (.string k.low)):=hk
 clear h hcc hk
 generalize t.page=pg at *
 go_enter Tryz.func98,Tryz.ntmps98
 go_wp2_with fail
 clear c0 c1
 go_loopw [5,13] (fun mv iv wr=>∃ (j m:Nat),j<=n∧iv=.int .i64 j∧mv=.int .i64 m∧m<=j∧Hid ((m=0∨(m<j∧∃ k,t.kids[m]?=some k∧leB k.low key=true))∧∀ i k,m<i->i<j->t.kids[i]?=some k->¬ leB k.low key=true)∧wr=w) (fun _ iv _=>n - (intOf iv).toNat)
 case atStart=>exact⟨0,0,Nat.zero_le _,rfl,rfl,Nat.le_refl _,⟨.inl rfl,fun i k h1 h2=>by omega⟩,rfl⟩
 case round =>
  obtain⟨j,m,hj,rfl,rfl,hmj,HI,rfl⟩:=hrel
  by_cases hlt2:j<n
  ·obtain⟨k,hki⟩:∃ k,t.kids[j]?=some k:=⟨_,List.getElem?_eq_getElem (by have:=HN.out;omega)⟩
   obtain⟨ty,v,hu,ha,f,r,hme,hcf,hcall⟩:=HK.out j k hki
   have d0:=HC.out j hlt2
   rw[hu] at d0
   have HKI:Hid (t.kids[j]?=some k):=hki
   obtain⟨lw,hlw⟩:∃ lw,k.low=lw:=⟨_,rfl⟩
   have HLW:Hid (k.low=lw):=hlw
   rw[hlw] at hcall
   clear hu hki hlw
   obtain⟨lb,hlb⟩:∃ lb,leB lw key=lb:=⟨_,rfl⟩
   have HLB:Hid (leB lw key=lb):=hlb
   unfold leB at hlb
   go_wp2_with fail
   refine hcall.mono ?_
   rintro e w' ⟨rfl,rfl⟩
   cases lb
   ·have HI2:Hid ((m=0∨(m<j+1∧∃ k,t.kids[m]?=some k∧leB k.low key=true))∧∀ i k,m<i->i<j+1->t.kids[i]?=some k->¬ leB k.low key=true):=by
     refine⟨HI.out.1.imp id (fun h=>⟨by omega,h.2⟩),fun i k2 h1 h2 h3=>?_⟩
     by_cases hij:i=j
     ·subst hij
      rw[HKI.out] at h3
      cases h3
      rw[HLW.out,HLB.out]
      simp
     ·exact HI.out.2 i k2 h1 (by omega) h3
    clear HI hcall
    go_wp2_with fail
    go_roundw
    case rel=>exact⟨j+1,m,by omega,by go_num,rfl,by omega,HI2,trivial⟩
    case measure=>simp[intOf];omega
   ·have HI2:Hid ((j=0∨(j<j+1∧∃ k,t.kids[j]?=some k∧leB k.low key=true))∧∀ i k,j<i->i<j+1->t.kids[i]?=some k->¬ leB k.low key=true) :=
     ⟨.inr ⟨by omega,k,HKI.out,by rw[HLW.out,HLB.out]⟩,fun i k2 h1 h2 h3=>by omega⟩
    clear HI hcall
    go_wp2_with fail
    go_roundw
    case rel=>exact⟨j+1,j,by omega,by go_num,rfl,by omega,HI2,trivial⟩
    case measure=>simp[intOf];omega
  ·have HF:Hid (TowardIs t key m):=by
    have hl:=HN.out
    refine⟨by rcases HI.out.1 with h | h<;>omega,HI.out.1.imp id (fun h=>h.2),fun i k h1 h3=>?_⟩
    have hi:=(List.getElem?_eq_some_iff.1 h3).1
    exact HI.out.2 i k h1 (by omega) h3
   clear HI
   go_wp2_with fail
   go_ret
   exact⟨m,rfl,HF.out,rfl⟩
def FObs (base:Nat) (w:World) (key:ByteArray) (s:Option (ByteArray × ByteArray × Int)) (ty:TypeId) (v:Value):Prop :=
 (∀ w,(nilAhead 261 ty v "loop.example/s02098/impl.find").run Tryz.prog w=.ok (some false) w)∧∃ f r,(∀ w,(method 261 ty v "loop.example/s02098/impl.find").run Tryz.prog w=.ok (f,r) w)∧(∀ w,(callFunc f #[r,.string key]).run Tryz.prog w=.ok (.enter f #[r,.string key]) w)∧∀ w',Below base w w'->base<=w'.heap.size->Calls Tryz.prog f #[r,.string key] w' fun e w2=>FindAns s w' e w2
end Go.Proofs.YtbfggcekifaldaaGreat
