import Derived.Test.YtkhglgalbifcnaaGreatGAA
import Derived.Test.YtkhglgalbifcnaaGreatGAC
import Derived.ArgAppend
namespace Go.Proofs.YtkhglgalbifcnaaGreat
set_option maxHeartbeats 1000000
open Go.RowKit
set_option linter.unusedVariables false
set_option linter.unusedSimpArgs false
set_option maxRecDepth 100000
structure GrAt (w:World) (G:Nat) (a:Option Addr) (n c:Nat) (nx:Nat) (met:Int->Bool):Prop where
 box:∃ cs:Array Value,w.heap[G]?=some (.cells cs 108)∧cs.size=1002∧cs[0]?=some (.slice a n c)∧cs[1]?=some (.int .i64 nx)∧∀ k:Nat,k<1000->cs[2+k]?=some (.bool (met k))
theorem GrAt.lt {w:World} {G:Nat} {a:Option Addr} {n c:Nat} {nx:Nat} {met:Int->Bool} (h:GrAt w G a n c nx met):G<w.heap.size:=by
 obtain⟨cs,h,_⟩:=h.box
 exact (Array.getElem?_eq_some_iff.1 h).1
theorem GrAt.keep {w w':World} {G:Nat} {a:Option Addr} {n c:Nat} {nx:Nat} {met:Int->Bool} (h:GrAt w G a n c nx met) (hk:w'.heap[G]?=w.heap[G]?):GrAt w' G a n c nx met:=by
 obtain⟨cs,h,h1⟩:=h.box
 exact⟨cs,hk.trans h,h1⟩
theorem GrAt.c0 {w:World} {G:Nat} {a:Option Addr} {n c:Nat} {nx:Nat} {met:Int->Bool} (h:GrAt w G a n c nx met):w.cell? ⟨G,0,none⟩=some (.slice a n c):=by
 obtain⟨cs,h,h0,h1,h2,h3⟩:=h.box
 simp[World.cell?,h,h1]
theorem GrAt.c1 {w:World} {G:Nat} {a:Option Addr} {n c:Nat} {nx:Nat} {met:Int->Bool} (h:GrAt w G a n c nx met):w.cell? ⟨G,1,none⟩=some (.int .i64 nx):=by
 obtain⟨cs,h,h0,h1,h2,h3⟩:=h.box
 simp[World.cell?,h,h2]
theorem GrAt.ck {w:World} {G:Nat} {a:Option Addr} {n c:Nat} {nx:Nat} {met:Int->Bool} (h:GrAt w G a n c nx met) {k:Nat} (hk:k<1000):w.cell? ⟨G,2+k,none⟩=some (.bool (met k)):=by
 obtain⟨cs,h,h0,h1,h2,h3⟩:=h.box
 simp[World.cell?,h,h3 k hk]
theorem GrAt.thaw {w:World} {G:Nat} {a:Option Addr} {n c:Nat} {nx:Nat} {met:Int->Bool} (h:GrAt w G a n c nx met):∀ o,w.frozen? ⟨G,o,none⟩=false:=by
 obtain⟨cs,h,_⟩:=h.box
 exact thawT h
theorem GrAt.step {w:World} {G:Nat} {a:Option Addr} {n c:Nat} {nx:Nat} {met:Int->Bool} (h:GrAt w G a n c nx met) (m:Nat):GrAt (w.setCell ⟨G,1,none⟩ (.int .i64 m)) G a n c m met:=by
 obtain⟨cs,h,h0,h1,h2,h3⟩:=h.box
 refine⟨cs.setIfInBounds 1 (.int .i64 m),heap_setT h 1 _,by simpa using h0,?_,?_,fun k hk=>?_⟩
 ·rw[Array.getElem?_setIfInBounds_ne (by omega)];exact h1
 ·rw[Array.getElem?_setIfInBounds_self_of_lt (by omega)]
 ·rw[Array.getElem?_setIfInBounds_ne (by omega)];exact h3 k hk
theorem GrAt.mark {w:World} {G:Nat} {a:Option Addr} {n c:Nat} {nx:Nat} {met:Int->Bool} (h:GrAt w G a n c nx met) {x:Nat} (hx:x<1000):GrAt (w.setCell ⟨G,2+x,none⟩ (.bool true)) G a n c nx (fun y=>met y || y == (x:Int)):=by
 obtain⟨cs,h,h0,h1,h2,h3⟩:=h.box
 refine⟨cs.setIfInBounds (2+x) (.bool true),heap_setT h (2+x) _,by simpa using h0,?_,?_,fun k hk=>?_⟩
 ·rw[Array.getElem?_setIfInBounds_ne (by omega)];exact h1
 ·rw[Array.getElem?_setIfInBounds_ne (by omega)];exact h2
 ·by_cases hkx:x=k
  ·subst hkx
   rw[Array.getElem?_setIfInBounds_self_of_lt (by omega)]
   simp
  ·rw[Array.getElem?_setIfInBounds_ne (by omega),h3 k hk]
   have:((k:Int) == (x:Int))=false:=by simp;omega
   simp[this]
theorem newPages_any (w:World):Calls Tryz.prog 53 #[] w fun e w'=>e=.returned (.agg #[.int .i64 2,.int .i64 999])∧Below w.heap.size w w':=by
 go_enter Tryz.func53,Tryz.ntmps53
 go_wp2
 exact bodyPost_ret (v:=.agg #[.int .i64 2,.int .i64 999]) (by simp[results,Tryz.results53,go_sem]) rfl ⟨rfl,(Below.refl _ _).alloc (Nat.le_refl _) _⟩
theorem hasT_any (x:Int) (w:World):Calls Tryz.prog 88 #[.agg #[.int .i64 2,.int .i64 999],.int .i64 x] w fun e w'=>e=.returned (.bool (pgB x))∧Below w.heap.size w w':=by
 have hb:=(Below.refl w.heap.size w).alloc (Nat.le_refl _) (.cells #[.int .i64 2,.int .i64 999] 115)
 by_cases t1:2<=x
 ·by_cases t2:x<=999
  ·have HE:Hid (pgB x=true):=by show _=_;simp[pgB];omega
   go_enter Tryz.func88,Tryz.ntmps88
   go_wp2
   go_ret
   exact⟨by rw[HE.out];rfl,hb⟩
  ·have HE:Hid (pgB x=false):=by show _=_;simp[pgB];omega
   go_enter Tryz.func88,Tryz.ntmps88
   go_wp2
   go_ret
   exact⟨by rw[HE.out];rfl,hb⟩
 ·have HE:Hid (pgB x=false):=by show _=_;simp[pgB];omega
  go_enter Tryz.func88,Tryz.ntmps88
  go_wp2
  go_ret
  exact⟨by rw[HE.out];rfl,hb⟩
def MeetAns (w:World) (G:Nat) (a:Option Addr) (n c nx:Nat) (met:Int->Bool) (x:Int) (e:Ending) (w':World):Prop :=
 ∃ r,e=.returned (.bool r)∧(r=true->∃ m,meetB met x=some m∧GrAt w' G a n c nx m)∧(r=false->meetB met x=none)∧Fr (fun k=>k=G) w w'
theorem meet_any (w:World) (G:Nat) (a:Option Addr) (n c nx:Nat) (met:Int->Bool) (x:Int) (h:GrAt w G a n c nx met):Calls Tryz.prog 72 #[.pointer (some ⟨G,0,none⟩),.int .i64 x] w fun e w'=>MeetAns w G a n c nx met x e w':=by
 by_cases t0:x=0
 ·subst t0
  have HA:Hid (MeetAns w G a n c nx met 0 (.returned (.bool true)) w):=⟨true,rfl,fun _=>⟨met,by simp[meetB],h⟩,(fun h=>by cases h),Fr.refl _ _⟩
  clear h
  go_enter Tryz.func72,Tryz.ntmps72
  go_wp2
  go_ret
  exact HA.out
 ·have sx:(x == 0)=false:=by simpa using t0
  cases hp:pgB x
  ·have HN:Hid (meetB met x=none):=by show _=_;simp[meetB,t0,hp]
   have hh:=hasT_any x
   rw[hp] at hh
   have HHH:Hid _:=hh
   clear hh hp h t0
   go_enter Tryz.func72,Tryz.ntmps72
   go_wp2_with fail
   refine (newPages_any w).mono ?_
   rintro e w1 ⟨rfl,hb1⟩
   go_wp2_with fail
   refine (HHH.out w1).mono ?_
   rintro e w2 ⟨rfl,hb2⟩
   have hb:=hb1.trans (hb2.mono hb1.size)
   go_wp2_with fail
   go_ret
   exact⟨false,rfl,(fun h=>by cases h),fun _=>HN.out,Fr.of_below hb⟩
  ·have hx2:2<=x∧x<=999:=by simpa[pgB] using hp
   have hh:=hasT_any x
   rw[hp] at hh
   have HHH:Hid _:=hh
   clear hh
   obtain⟨xn,rfl⟩:∃ xn:Nat,x=(xn:Int):=⟨x.toNat,by omega⟩
   have hxn:xn<1000:=by omega
   have HG:Hid (GrAt w G a n c nx met):=h
   have hGl:=h.lt
   cases hm:met xn
   ·have HN:Hid (meetB met xn=some (fun y=>met y || y == (xn:Int))):=by show _=_;simp only[meetB,if_neg t0,hp,hm];rfl
    clear hp h t0
    go_enter Tryz.func72,Tryz.ntmps72
    go_wp2_with fail
    refine (newPages_any w).mono ?_
    rintro e w1 ⟨rfl,hb1⟩
    go_wp2_with fail
    refine (HHH.out w1).mono ?_
    rintro e w2 ⟨rfl,hb2⟩
    have hb:=hb1.trans (hb2.mono hb1.size)
    have h2:GrAt w2 G a n c nx met:=HG.out.keep (hb.block G hGl)
    have ck:=h2.ck hxn
    rw[hm] at ck
    have ff:=h2.thaw
    have hl2:=h2.lt
    have h3:=h2.mark hxn
    have hfr:=(Fr.of_below (S:=fun k=>k=G) hb).trans (fr_setT w2 G (2+xn) (.bool true))
    clear h2 hb1 hb2
    go_wp2_with fail
    go_ret
    exact⟨true,rfl,fun _=>⟨_,HN.out,h3⟩,(fun h=>by cases h),hfr⟩
   ·have HN:Hid (meetB met xn=none):=by show _=_;simp[meetB,hp,hm];omega
    clear hp h t0
    go_enter Tryz.func72,Tryz.ntmps72
    go_wp2_with fail
    refine (newPages_any w).mono ?_
    rintro e w1 ⟨rfl,hb1⟩
    go_wp2_with fail
    refine (HHH.out w1).mono ?_
    rintro e w2 ⟨rfl,hb2⟩
    have hb:=hb1.trans (hb2.mono hb1.size)
    have h2:GrAt w2 G a n c nx met:=HG.out.keep (hb.block G hGl)
    have ck:=h2.ck hxn
    rw[hm] at ck
    have hl2:=h2.lt
    clear h2 hb1 hb2
    go_wp2_with fail
    go_ret
    exact⟨false,rfl,(fun h=>by cases h),fun _=>HN.out,Fr.of_below hb⟩
theorem mayStand_any (k v:ByteArray) (o p:Int) (hv:v.size<=maxLen) (w:World):Calls Tryz.prog 89 #[.agg #[.string k,.string v,.int .i64 o],.int .i64 p] w fun e w'=>e=.returned (.bool (mayB p v o))∧Below w.heap.size w w':=by
 have hb:=(Below.refl w.heap.size w).alloc (Nat.le_refl _) (.cells #[.string k,.string v,.int .i64 o] 134)
 unfold maxLen at hv
 by_cases t1:v.size<=8
 ·have HE:Hid (mayB p v o=(o == 0)):=by show _=_;simp[mayB,t1]
  go_enter Tryz.func89,Tryz.ntmps89
  go_wp2
  go_ret
  exact⟨by rw[HE.out];rfl,hb⟩
 ·by_cases t2:v.size<=400
  ·by_cases t3:p=0
   ·subst t3
    have HE:Hid (mayB 0 v o=true):=by show _=_;simp[mayB,t1,t2]
    go_enter Tryz.func89,Tryz.ntmps89
    go_wp2
    go_ret
    exact⟨by rw[HE.out];rfl,hb⟩
   ·have s3:(p == 0)=false:=by simpa using t3
    have HE:Hid (mayB p v o=(o != 0)):=by show _=_;simp[mayB,t1,t2,t3]
    clear t3
    go_enter Tryz.func89,Tryz.ntmps89
    go_wp2
    go_ret
    exact⟨by rw[HE.out];rfl,hb⟩
  ·have HE:Hid (mayB p v o=false):=by show _=_;simp[mayB,t1,t2]
   go_enter Tryz.func89,Tryz.ntmps89
   go_wp2
   go_ret
   exact⟨by rw[HE.out];rfl,hb⟩
def GM (w:World) (P:Nat->Prop):T->Value->Prop
 | ⟨l,p,k,v,o,y⟩,u=>if l then ∃ (L:Nat) (a:Option Addr) (n c:Nat),u=.iface 120 (.pointer (some ⟨L,0,none⟩))∧P L∧w.heap[L]?=some (.cells #[.int .i64 p,.slice a n c] 142)∧w.ownsRow 0 134 3 (.slice a n c) n (rowsOf slCells (k.zip (v.zip o)))∧(∀ g,(Value.slice a n c).ownBlock=some g->P g∧g≠L)∧n=k.length
  else ∃ (L:Nat) (a:Option Addr) (n c:Nat) (ul:List Value) (Q:Nat->Nat->Prop),u=.iface 122 (.pointer (some ⟨L,0,none⟩))∧P L∧w.heap[L]?=some (.cells #[.int .i64 p,.slice a n c] 148)∧w.ownsRow 0 61 1 (.slice a n c) n ul∧(∀ g,(Value.slice a n c).ownBlock=some g->P g∧g≠L)∧n=y.length∧(∀ i j b,Q i b->Q j b->i=j)∧(∀ i b,Q i b->P b∧b≠L∧(Value.slice a n c).ownBlock≠some b)∧∀ i,∀ t ∈ y,y[i]?=some t->GM w (Q i) t (ul.getD i .nilIface)
structure GML (w:World) (P:Nat->Prop) (t:T) (L:Nat) (a:Option Addr) (n c:Nat):Prop where
 at':P L
 box:w.heap[L]?=some (.cells #[.int .i64 t.page,.slice a n c] 142)
 row:w.ownsRow 0 134 3 (.slice a n c) n (rowsOf slCells (t.keys.zip (t.vals.zip t.over)))
 blk:∀ g,(Value.slice a n c).ownBlock=some g->P g∧g≠L
 len:n=t.keys.length
structure GMI (w:World) (P:Nat->Prop) (t:T) (L:Nat) (a:Option Addr) (n c:Nat) (ul:List Value) (Q:Nat->Nat->Prop):Prop where
 at':P L
 box:w.heap[L]?=some (.cells #[.int .i64 t.page,.slice a n c] 148)
 row:w.ownsRow 0 61 1 (.slice a n c) n ul
 blk:∀ g,(Value.slice a n c).ownBlock=some g->P g∧g≠L
 len:n=t.kids.length
 dis:∀ i j b,Q i b->Q j b->i=j
 sub:∀ i b,Q i b->P b∧b≠L∧(Value.slice a n c).ownBlock≠some b
 kid:∀ i,∀ k ∈ t.kids,t.kids[i]?=some k->GM w (Q i) k (ul.getD i .nilIface)
theorem GM.leaf {w:World} {P:Nat->Prop} {t:T} {u:Value} (h:GM w P t u) (hl:t.leaf=true):∃ L a n c,u=.iface 120 (.pointer (some ⟨L,0,none⟩))∧GML w P t L a n c:=by
 obtain⟨l,p,k,v,o,y⟩:=t
 simp only at hl
 rw[GM.eq_def] at h
 simp only[hl,if_true] at h
 obtain⟨L,a,n,c,e,h1,h2,h3,h4,h5⟩:=h
 exact⟨L,a,n,c,e,h1,h2,h3,h4,h5⟩
theorem GM.inner {w:World} {P:Nat->Prop} {t:T} {u:Value} (h:GM w P t u) (hl:t.leaf=false):∃ L a n c ul Q,u=.iface 122 (.pointer (some ⟨L,0,none⟩))∧GMI w P t L a n c ul Q:=by
 obtain⟨l,p,k,v,o,y⟩:=t
 simp only at hl
 rw[GM.eq_def] at h
 simp only[hl,Bool.false_eq_true,if_false] at h
 obtain⟨L,a,n,c,ul,Q,e,h1,h2,h3,h4,h5,h6,h7,h8⟩:=h
 exact⟨L,a,n,c,ul,Q,e,h1,h2,h3,h4,h5,h6,h7,h8⟩
theorem GML.is {w:World} {P:Nat->Prop} {t:T} {L:Nat} {a:Option Addr} {n c:Nat} (h:GML w P t L a n c) (hl:t.leaf=true):GM w P t (.iface 120 (.pointer (some ⟨L,0,none⟩))):=by
 obtain⟨l,p,k,v,o,y⟩:=t
 simp only at hl
 rw[GM.eq_def]
 simp only[hl,if_true]
 exact⟨L,a,n,c,rfl,h.at',h.box,h.row,h.blk,h.len⟩
theorem GMI.is {w:World} {P:Nat->Prop} {t:T} {L:Nat} {a:Option Addr} {n c:Nat} {ul:List Value} {Q:Nat->Nat->Prop} (h:GMI w P t L a n c ul Q) (hl:t.leaf=false):GM w P t (.iface 122 (.pointer (some ⟨L,0,none⟩))):=by
 obtain⟨l,p,k,v,o,y⟩:=t
 simp only at hl
 rw[GM.eq_def]
 simp only[hl,Bool.false_eq_true,if_false]
 exact⟨L,a,n,c,ul,Q,rfl,h.at',h.box,h.row,h.blk,h.len,h.dis,h.sub,h.kid⟩
theorem owns_keepG {w w':World} {base e size:Nat} {v:Value} {n:Nat} {xs:List Value} (h:w.ownsRow base e size v n xs) (hp:∀ g,v.ownBlock=some g->w'.heap[g]?=w.heap[g]?):w'.ownsRow base e size v n xs:=by
 refine⟨h.1,?_⟩
 rcases h.2 with h | ⟨g,cap,cur,e1,h1,h2,h3⟩
 ·exact .inl h
 ·exact .inr ⟨g,cap,cur,e1,h1,(hp g (by rw[e1];rfl)).trans h2,h3⟩
theorem GM.keep {w w':World}:∀ (t:T) (P Q:Nat->Prop) (u:Value),(∀ b,P b->w'.heap[b]?=w.heap[b]?)->(∀ b,P b->Q b)->GM w P t u->GM w' Q t u:=by
 intro t
 induction t using T.ind with
 | h t ih =>
  intro P R u hp hQ h
  cases hl:t.leaf
  ·obtain⟨L,a,n,c,ul,Q,rfl,q⟩:=h.inner hl
   exact GMI.is (Q:=Q) ⟨hQ L q.at',(hp L q.at').trans q.box,owns_keepG q.row (fun g hg=>hp g (q.blk g hg).1),fun g hg=>⟨hQ g (q.blk g hg).1,(q.blk g hg).2⟩,q.len,q.dis,fun i b hb=>⟨hQ b (q.sub i b hb).1,(q.sub i b hb).2⟩,fun i k hm hi=>ih k hm (Q i) (Q i) _ (fun b hb=>hp b (q.sub i b hb).1) (fun _ hb=>hb) (q.kid i k hm hi)⟩ hl
  ·obtain⟨L,a,n,c,rfl,q⟩:=h.leaf hl
   exact GML.is ⟨hQ L q.at',(hp L q.at').trans q.box,owns_keepG q.row (fun g hg=>hp g (q.blk g hg).1),fun g hg=>⟨hQ g (q.blk g hg).1,(q.blk g hg).2⟩,q.len⟩ hl
theorem GML.see {w:World} {P:Nat->Prop} {t:T} {L:Nat} {a:Option Addr} {n c:Nat} (h:GML w P t L a n c):GLeaf w P t L a n c:=by
 have hrow:=h.row
 have hzl:(t.keys.zip (t.vals.zip t.over)).length=n:=by
  have:=hrow.1
  rw[rowsOf_length sl3] at this
  omega
 refine⟨h.at',h.box,?_,h.len⟩
 rcases hrow.2 with ⟨e,e2⟩ | ⟨g,cap,cur,e,h1,h2,h3,h4,_⟩
 ·simp only[Value.slice.injEq] at e
  obtain⟨_,e3,e4⟩:=e
  exact⟨hzl,by omega,by omega,fun h=>by omega⟩
 ·simp only[Value.slice.injEq] at e
  obtain⟨rfl,_,rfl⟩:=e
  exact⟨hzl,h3,h4,fun hn=>⟨g,rfl,(h.blk g rfl).1,fun r hr=>hrow.cellAt r hr⟩⟩
theorem GM.see {w:World}:∀ (t:T) (P:Nat->Prop) (u:Value),GM w P t u->GIs w P t u:=by
 intro t
 induction t using T.ind with
 | h t ih =>
  intro P u h
  cases hl:t.leaf
  ·obtain⟨L,a,n,c,ul,Q,rfl,q⟩:=h.inner hl
   have hrow:=q.row
   refine GInner.is (us:=fun i=>ul.getD i .nilIface) ⟨q.at',q.box,?_,?_,fun i k hm hi=>GIs.keep (fun _ _=>rfl) (fun b hb=>(q.sub i b hb).1) k _ (ih k hm (Q i) _ (q.kid i k hm hi))⟩ hl
   ·rcases hrow.2 with ⟨e,e2⟩ | ⟨g,cap,cur,e,h1,h2,h3,h4,_⟩
    ·simp only[Value.slice.injEq] at e
     exact⟨q.len,by omega,by omega⟩
    ·simp only[Value.slice.injEq] at e
     obtain⟨_,_,rfl⟩:=e
     exact⟨q.len,h3,h4⟩
   ·intro hn
    rcases hrow.2 with ⟨e,e2⟩ | ⟨g,cap,cur,e,h1,h2,h3,h4,_⟩
    ·omega
    ·simp only[Value.slice.injEq] at e
     obtain⟨rfl,_,rfl⟩:=e
     refine⟨g,rfl,(q.blk g rfl).1,fun i hi=>?_⟩
     rw[hrow.cellAt i (by omega)]
     have hul:=hrow.1
     simp[List.getD,show i<ul.length by omega]
  ·obtain⟨L,a,n,c,rfl,q⟩:=h.leaf hl
   exact q.see.is hl
theorem GM.drew {w:World} {P:Nat->Prop} {t:T} {u:Value} (h:GM w P t u):GM w.drew P t u:=GM.keep (w:=w) (w':=w.drew) t P P u (fun _ _=>rfl) (fun _ h=>h) h
theorem GM.shape {w:World} {P:Nat->Prop} {t:T} {u:Value} (h:GM w P t u):∃ ty v,u=.iface ty v:=(GM.see t P u h).shape
theorem own_lowerD {w:World} {b b' e size:Nat} {v:Value} {n:Nat} {xs:List Value} (h:w.ownsRow b e size v n xs) (hb:b'<=b):w.ownsRow b' e size v n xs:=by
 refine⟨h.1,?_⟩
 rcases h.2 with hn | ⟨g,cap,cur,e1,e2,e3⟩
 ·exact .inl hn
 ·exact .inr ⟨g,cap,cur,e1,Nat.le_trans hb e2,e3⟩
theorem grown_weakD {w w':World} {row:Option Nat} (h:w.grownBy w' none):w.grownBy w' row :=
 ⟨h.os,h.tape,h.output,h.size,fun k hk _=>h.block k hk (by simp)⟩
theorem run_append_ownD {P:Program} (w:World) (base:Nat) (t ty e:TypeId) (i:TypeInfo) (z:Value) (size bytes:Nat) (ht:P.underlying t=some (.slice e)) (hi:P.info? e=some i) (hz:i.zero=some z)
  (hsize:i.size=size) (hby:i.bytes=bytes) (hzs:z.cells.size=size) (hsz:0<size)
  (v:Value) (n:Nat) (xs:List Value) (hown:w.ownsRow base e size v n xs)
  (a:Addr) (m c:Nat) (news:List Value) (hl:news.length=m*size) (hnews:∀ j u,news[j]?=some u->w.cell? (a.add j)=some u) (h1:∀ u ∈ news,u.oneCell'=true)
  (h63:n+m<=maxLen) (hbytes:(n+m)*bytes<=140737488355328) (hbase:base<=w.heap.size) :
  ∃ v' w',(Builtin.append_ #[t,t] ty #[v,.slice (some a) m c]).run P w=.ok v' w'∧w'.ownsRow base e size v' (n+m) (xs++news)∧w.grownBy w' v.ownBlock ∧
   (v'.ownBlock=v.ownBlock∨∀ g,v'.ownBlock=some g->w.heap.size<=g):=by
 rcases hown.2 with ⟨rfl,rfl⟩ | ⟨g,cap,cur,rfl,hbg,hg,hnc,hcm,hcs,htake⟩
 ·have hx:xs=[]:=List.eq_nil_of_length_eq_zero (by simpa using hown.1)
  subst hx
  obtain⟨v',w',hr,ho,hgr,_⟩:=run_append_own (P:=P) w w.heap.size t ty e i z size bytes ht hi hz hsize hby hzs hsz _ 0 [] (World.ownsRow_nil w _ e size) a m c news hl hnews h1 h63 hbytes (Nat.le_refl _)
  exact⟨v',w',hr,own_lowerD ho hbase,hgr,.inr fun k hk=>(ho.lt k hk).1⟩
 ·by_cases hroom:n+m<=cap
  ·obtain⟨v',w',hr,ho,hgr,_⟩:=run_append_own (P:=P) w base t ty e i z size bytes ht hi hz hsize hby hzs hsz _ n xs hown a m c news hl hnews h1 h63 hbytes hbase
   subst hsize
   have hfit:n*i.size+news.length<=cur.size:=by rw[hl,hcs,<-Nat.add_mul];exact Nat.mul_le_mul_right _ hroom
   have hr2:=run_append_room (P:=P) w t ty e i ht hi g n cap cur hg a m c news hl hnews h1 hroom hfit
   rw[hr] at hr2
   injection hr2 with e1 e2
   exact⟨v',w',hr,ho,hgr,.inl (by rw[e1];rfl)⟩
  ·have holds:∀ j u,xs[j]?=some u->w.cell? ((⟨g,0,none⟩:Addr).add j)=some u:=hown.cells (g:=g) rfl
   obtain⟨v',w',hr,ho,hgr⟩:=run_append_arg_grows (P:=P) w t ty e i z size bytes ht hi hz hsize hby hzs hsz ⟨g,0,none⟩ n cap xs hown.1 holds a m c news hl hnews (by omega) h63 hbytes
   exact⟨v',w',hr,own_lowerD ho hbase,grown_weakD hgr,.inr fun k hk=>(ho.lt k hk).1⟩
theorem wpList_append_ownD {P:Program} (w:World) {ops:Array Oper} {rest:List Oper} {o:Oper} {a:Act} {Q:Exit->Act->World->Prop} (hgd:o.guard=none) (s x:Operand) (t:TypeId)
  (ho:o.op=.call { callee:=.builtin .append,args:=#[s,x],argTypes:=#[t,t] })
  (base:Nat) (e:TypeId) (i:TypeInfo) (z:Value) (size bytes:Nat) (ht:P.underlying t=some (.slice e)) (hi:P.info? e=some i) (hz:i.zero=some z)
  (hsize:i.size=size) (hby:i.bytes=bytes) (hzs:z.cells.size=size) (hsz:0<size)
  (v:Value) (n:Nat) (xs:List Value) (hs:a.eval s=v) (hown:w.ownsRow base e size v n xs)
  (ad:Addr) (m c:Nat) (news:List Value) (hx:a.eval x=.slice (some ad) m c) (hl:news.length=m*size) (hnews:∀ j u,news[j]?=some u->w.cell? (ad.add j)=some u) (h1:∀ u ∈ news,u.oneCell'=true)
  (h63:n+m<=maxLen) (hbytes:(n+m)*bytes<=140737488355328) (hbase:base<=w.heap.size)
  (h:∀ v' w',w'.ownsRow base e size v' (n+m) (xs++news)->w.grownBy w' v.ownBlock->(v'.ownBlock=v.ownBlock∨∀ g,v'.ownBlock=some g->w.heap.size<=g)->wpList P ops Q rest (a.put o.dst v') w'):wpList P ops Q (o::rest) a w:=by
 refine wpList_plain hgd fun _ hK=>?_
 obtain⟨v',w',hr,h2,h3,h4⟩:=run_append_ownD (P:=P) w base t o.type e i z size bytes ht hi hz hsize hby hzs hsz v n xs hown ad m c news hl hnews h1 h63 hbytes hbase
 unfold Oper.wp execOp
 simp only[ho,resolve,invoke,builtin,Sem.run_bind,Sem.run_pure,Result.andThen_ok,List.map_toArray,List.map_cons,List.map_nil,hs,hx,hr]
 exact hK _ _ (h v' w' h2 h3 h4)
end Go.Proofs.YtkhglgalbifcnaaGreat
