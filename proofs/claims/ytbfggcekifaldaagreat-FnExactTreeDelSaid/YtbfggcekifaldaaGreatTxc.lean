import Derived.Test.YtbfggcekifaldaaGreatHTxj
namespace Go.Proofs.YtbfggcekifaldaaGreat
open Go.RowKit
set_option linter.unusedVariables false
set_option linter.unusedSimpArgs false
set_option maxRecDepth 100000
def giveB (ys:List T) (i:Int):Bool:=decide (0<=i∧i<ys.length∧2<(ys.getD i.toNat leafT).size)
set_option maxHeartbeats 2000000 in
theorem canGive_any {w:World} {P:Nat->Prop} {t:T} {L:Nat} {a:Option Addr} {n c:Nat} {ul:List Value} {Q:Nat->Nat->Prop} (h:GMI w P t L a n c ul Q) (hn:n<=1000) (i:Int) (hi:-1<=i∧i<=n):Calls Tryz.prog 100 #[.pointer (some ⟨L,0,none⟩),.int .i64 i] w fun e w'=>e=.returned (.bool (giveB t.kids i))∧w'=w:=by
 have HN:Hid (n=t.kids.length):=h.len
 have hbx:=h.box
 obtain⟨pg,hpg⟩:∃ pg,t.page=pg:=⟨_,rfl⟩
 rw[hpg] at hbx
 obtain⟨c0,c1⟩:=box_twoG hbx
 have lL:=(Array.getElem?_eq_some_iff.1 hbx).1
 by_cases h0:0<=i
 ·obtain⟨m,rfl⟩:∃ m:Nat,i=m:=⟨i.toNat,by omega⟩
  by_cases h1:m<n
  ·obtain⟨z,hz⟩:∃ z,t.kids[m]?=some z:=⟨_,List.getElem?_eq_getElem (by rw[<-h.len];exact h1)⟩
   have hk:=h.kid m z (List.mem_of_getElem? hz) hz
   have hu:ul.length=n:=by have:=h.row.1;omega
   obtain⟨ty,v,hv⟩:=hk.shape
   rw[hv] at hk
   obtain⟨hns,f2,r2,hms,hcs2,hsize⟩:=hk.size
   have hrow:=h.row
   rcases hrow.2 with ⟨_,e⟩ | ⟨b,cap,cur,e,_,hg,hnc,hcm,hcs,htk⟩
   ·omega
   simp only[Value.slice.injEq] at e
   obtain⟨rfl,_,rfl⟩:=e
   have hc:=hrow.cellAt m (by omega)
   have hum:ul[m]?=some (.iface ty v):=by rw[<-hv];simp only[List.getD];rw[List.getElem?_eq_getElem (by omega)];rfl
   rw[hum] at hc
   unfold maxLen at hcm
   have HG:Hid (giveB t.kids m=decide (2<z.size)):=by
    show _=_
    unfold giveB
    have e1:t.kids.getD (m:Int).toNat leafT=z:=by simp[List.getD,hz]
    rw[e1]
    have e2:=HN.out
    by_cases h9:2<z.size
    ·rw[decide_eq_true h9,decide_eq_true ⟨by omega,by omega,h9⟩]
    ·rw[decide_eq_false h9,decide_eq_false (fun e=>h9 e.2.2)]
   obtain⟨sz,hsz⟩:∃ sz,z.size=sz:=⟨_,rfl⟩
   rw[hsz] at HG hsize
   clear hk hz hu hrow hg hcs htk hbx hpg h hv hum hsz HN
   go_enter Tryz.func100,Tryz.ntmps100
   go_wp2_with fail
   refine hsize.mono ?_
   rintro e w1 ⟨rfl,e1⟩
   obtain rfl:w=w1:=e1.symm
   by_cases h9:2<sz
   ·go_wp2_with fail
    go_ret
    exact⟨by rw[HG.out];simp[h9];omega,rfl⟩
   ·go_wp2_with fail
    go_ret
    exact⟨by rw[HG.out];simp[h9];omega,rfl⟩
  ·have HG:Hid (giveB t.kids m=false):=by
    show _=_
    have e2:=HN.out
    unfold giveB
    exact decide_eq_false (fun e=>by omega)
   clear hbx hpg h HN
   go_enter Tryz.func100,Tryz.ntmps100
   go_wp2_with fail
   go_ret
   exact⟨by rw[HG.out];rfl,rfl⟩
 ·have HG:Hid (giveB t.kids i=false):=by
   show _=_
   unfold giveB
   exact decide_eq_false (fun e=>h0 e.1)
  clear hbx hpg h HN
  go_enter Tryz.func100,Tryz.ntmps100
  go_wp2_with fail
  go_ret
  exact⟨by rw[HG.out];rfl,rfl⟩
end Go.Proofs.YtbfggcekifaldaaGreat
