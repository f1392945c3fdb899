import Derived.Test.YtkhglgalbifcnaaGreatTlr
import Derived.Test.YtkhglgalbifcnaaGreatGAV
import Derived.Test.YtkhglgalbifcnaaGreatGAY
import Derived.Test.YtkhglgalbifcnaaGreatGAZ
import Derived.Test.YtkhglgalbifcnaaGreatGBA
import Derived.Test.YtkhglgalbifcnaaGreatGBB
import Derived.Test.YtkhglgalbifcnaaGreatGBC
import Derived.Test.YtkhglgalbifcnaaGreatGBI
import Derived.Test.YtkhglgalbifcnaaGreatGBE
import Derived.Test.YtkhglgalbifcnaaGreatGBG
namespace Go.Proofs.YtkhglgalbifcnaaGreat
open Go.RowKit
set_option linter.unusedVariables false
set_option linter.unusedSimpArgs false
set_option maxRecDepth 100000
def DelOk (key:ByteArray) (k:T):Prop:=∀ (w:World) (P:Nat->Prop) (ty:TypeId) (v:Value),GM w P k (.iface ty v)->(∀ b,P b->b<w.heap.size)->(∀ w,(nilAhead 297 ty v "loop.example/s02098/impl.del").run Tryz.prog w=.ok (some false) w)∧∃ f r,(∀ w,(method 297 ty v "loop.example/s02098/impl.del").run Tryz.prog w=.ok (f,r) w)∧(∀ x w,(callFunc f #[r,x]).run Tryz.prog w=.ok (.enter f #[r,x]) w)∧Calls Tryz.prog f #[r,.string key] w fun e w'=>DelAns w P key k (.iface ty v) e w'
def delR (ts:List TN) (key:ByteArray):Bool × List TN:=match topT ts with
 | none=>(false,ts)
 | some t=>if (lookT key t.slots).isSome=true then (true,(rootD key t).flat 0) else (false,ts)
theorem topT_neat {ts:List TN} {t:T} (h:topT ts=some t):Neat t:=by
 obtain⟨_,⟨met,e⟩,g5,_⟩:=topT_good h
 exact gr_neat ts _ _ _ _ _ _ e ⟨true,g5⟩
def cE (j:Nat):TypeId:=if j<2 then 9 else 2
def cS (j:Nat):Nat:=1
structure JC (SZ:Nat) (Wd:World) (M:Nat) (da:Nat->Nat->Nat) (con:Nat->Nat->List Value) (len:Nat->Nat->Nat) (keep:List (Nat × Value)) (p:Nat->Nat) (a:Act) (w:World):Prop where
 sz:a.tmps.size=SZ
 df:a.defers=[]
 kp:∀ x ∈ keep,a.eval (.tmp x.1)=x.2
 cur:∀ j,j<4->0<p j->w.ownsRow M (cE j) (cS j) (a.eval (.tmp (da j (p j)))) (len j (p j)) (con j (p j))
 apart:∀ i j,i<4->j<4->i≠j->0<p i->0<p j->∀ g,(a.eval (.tmp (da i (p i)))).ownBlock=some g->(a.eval (.tmp (da j (p j)))).ownBlock≠some g
 fr:Fr (fun g=>M<=g) Wd w
def copyOps:Array Oper:=#[
 ⟨some 19,Op.fieldAddr 29 (.tmp 3) 0,0,"l3_tree.go:244",#[],none⟩,
 ⟨some 20,Op.load 27 (.tmp 19),27,"l3_tree.go:244",#[⟨0,.data⟩],none⟩,
 ⟨some 21,Op.fieldAddr 103 (.tmp 5) 0,0,"l3_tree.go:244",#[],none⟩,
 ⟨some 22,Op.load 4 (.tmp 21),4,"l3_tree.go:244",#[⟨2,.data⟩],none⟩,
 ⟨some 23,Op.fieldAddr 103 (.tmp 5) 1,0,"l3_tree.go:244",#[],none⟩,
 ⟨some 24,Op.load 2 (.tmp 23),2,"l3_tree.go:244",#[⟨4,.data⟩],none⟩,
 ⟨some 25,Op.buildSlice 46 0 #[],46,"l3_tree.go:244",#[],none⟩,
 ⟨some 26,Op.fieldAddr 103 (.tmp 5) 2,0,"l3_tree.go:244",#[],none⟩,
 ⟨some 27,Op.load 46 (.tmp 26),46,"l3_tree.go:244",#[⟨7,.data⟩],none⟩,
 ⟨some 28,Op.call { callee:=Callee.builtin Builtin.append,args:=#[Operand.tmp 25,Operand.tmp 27],argTypes:=#[46,46] },46,"l3_tree.go:244",#[⟨6,.data⟩,⟨8,.data⟩],none⟩,
 ⟨some 29,Op.buildSlice 46 0 #[],46,"l3_tree.go:244",#[],none⟩,
 ⟨some 30,Op.fieldAddr 103 (.tmp 5) 3,0,"l3_tree.go:244",#[],none⟩,
 ⟨some 31,Op.load 46 (.tmp 30),46,"l3_tree.go:244",#[⟨11,.data⟩],none⟩,
 ⟨some 32,Op.call { callee:=Callee.builtin Builtin.append,args:=#[Operand.tmp 29,Operand.tmp 31],argTypes:=#[46,46] },46,"l3_tree.go:244",#[⟨10,.data⟩,⟨12,.data⟩,⟨9,.chain⟩],none⟩,
 ⟨some 33,Op.buildSlice 25 0 #[],25,"l3_tree.go:244",#[],none⟩,
 ⟨some 34,Op.fieldAddr 103 (.tmp 5) 4,0,"l3_tree.go:244",#[],none⟩,
 ⟨some 35,Op.load 25 (.tmp 34),25,"l3_tree.go:244",#[⟨15,.data⟩],none⟩,
 ⟨some 36,Op.call { callee:=Callee.builtin Builtin.append,args:=#[Operand.tmp 33,Operand.tmp 35],argTypes:=#[25,25] },25,"l3_tree.go:244",#[⟨14,.data⟩,⟨16,.data⟩,⟨13,.chain⟩],none⟩,
 ⟨some 37,Op.buildSlice 25 0 #[],25,"l3_tree.go:244",#[],none⟩,
 ⟨some 38,Op.fieldAddr 103 (.tmp 5) 5,0,"l3_tree.go:244",#[],none⟩,
 ⟨some 39,Op.load 25 (.tmp 38),25,"l3_tree.go:244",#[⟨19,.data⟩],none⟩,
 ⟨some 40,Op.call { callee:=Callee.builtin Builtin.append,args:=#[Operand.tmp 37,Operand.tmp 39],argTypes:=#[25,25] },25,"l3_tree.go:244",#[⟨18,.data⟩,⟨20,.data⟩,⟨17,.chain⟩],none⟩,
 ⟨some 41,Op.build 103 #[(0,Operand.tmp 22),(1,Operand.tmp 24),(2,Operand.tmp 28),(3,Operand.tmp 32),(4,Operand.tmp 36),(5,Operand.tmp 40)],103,"l3_tree.go:244",#[⟨3,.data⟩,⟨5,.data⟩,⟨9,.data⟩,⟨13,.data⟩,⟨17,.data⟩,⟨21,.data⟩],none⟩,
 ⟨some 42,Op.buildSlice 27 1 #[(0,Operand.tmp 41)],27,"l3_tree.go:244",#[⟨22,.data⟩],none⟩,
 ⟨some 43,Op.call { callee:=Callee.builtin Builtin.append,args:=#[Operand.tmp 20,Operand.tmp 42],argTypes:=#[27,27] },27,"l3_tree.go:244",#[⟨1,.data⟩,⟨23,.data⟩,⟨21,.chain⟩],none⟩,
 ⟨some 44,Op.fieldAddr 29 (.tmp 3) 0,0,"l3_tree.go:244",#[⟨0,.phase⟩,⟨1,.phase⟩,⟨2,.phase⟩,⟨3,.phase⟩,⟨4,.phase⟩,⟨5,.phase⟩,⟨6,.phase⟩,⟨7,.phase⟩,⟨8,.phase⟩,⟨9,.phase⟩,⟨10,.phase⟩,⟨11,.phase⟩,⟨12,.phase⟩,⟨13,.phase⟩,⟨14,.phase⟩,⟨15,.phase⟩,⟨16,.phase⟩,⟨17,.phase⟩,⟨18,.phase⟩,⟨19,.phase⟩,⟨20,.phase⟩,⟨21,.phase⟩,⟨22,.phase⟩,⟨23,.phase⟩,⟨24,.phase⟩],none⟩,
 ⟨none,Op.store 27 (.tmp 44) (.tmp 43),0,"l3_tree.go:244",#[⟨25,.data⟩,⟨24,.data⟩,⟨24,.chain⟩,⟨0,.phase⟩,⟨1,.phase⟩,⟨2,.phase⟩,⟨3,.phase⟩,⟨4,.phase⟩,⟨5,.phase⟩,⟨6,.phase⟩,⟨7,.phase⟩,⟨8,.phase⟩,⟨9,.phase⟩,⟨10,.phase⟩,⟨11,.phase⟩,⟨12,.phase⟩,⟨13,.phase⟩,⟨14,.phase⟩,⟨15,.phase⟩,⟨16,.phase⟩,⟨17,.phase⟩,⟨18,.phase⟩,⟨19,.phase⟩,⟨20,.phase⟩,⟨21,.phase⟩,⟨22,.phase⟩,⟨23,.phase⟩,⟨24,.phase⟩],none⟩]
def copyL (p0 p1 p2 p3 q:Nat):Array Bool:=#[true,decide (1<=q),true,true,true,true,decide (1<=p0),true,true,decide (2<=p0),decide (1<=p1),true,true,decide (2<=p1),decide (1<=p2),true,true,decide (2<=p2),decide (1<=p3),true,true,decide (2<=p3),false,false,false,false,false]
def copyC (p0 p1 p2 p3:Nat):Bool:=(decide (p1<=1) || decide (p0=2)) && (decide (p2<=1) || decide (p1=2)) && (decide (p3<=1) || decide (p2=2))
def copyK (p0 p1 p2 p3 q i:Nat):Bool:=(i == 1 && q == 0) || (i == 6 && p0 == 0) || (i == 10 && p1 == 0) || (i == 14 && p2 == 0) || (i == 18 && p3 == 0) || (i == 9 && p0 == 1) || (i == 13 && p1 == 1 && p0 == 2) || (i == 17 && p2 == 1 && p1 == 2) || (i == 21 && p3 == 1 && p2 == 2)
def copyAll:Bool:=(List.range 3).all fun p0=>(List.range 3).all fun p1=>(List.range 3).all fun p2=>(List.range 3).all fun p3=>(List.range 2).all fun q=>!(copyC p0 p1 p2 p3) || (p0 == 2 && p1 == 2 && p2 == 2 && p3 == 2) || (!((Region.ready .any copyOps (copyL p0 p1 p2 p3 q)).isEmpty) && (Region.ready .any copyOps (copyL p0 p1 p2 p3 q)).all (fun i=>copyK p0 p1 p2 p3 q i))
def cda (j q:Nat):Nat:=22+3*q+4*j
def ccon (xA:Nat->List Value) (j q:Nat):List Value:=if q=1 then [] else xA j
def clen (nA:Nat->Nat) (j q:Nat):Nat:=if q=1 then 0 else nA j
def ckeep (keep:List (Nat × Value)) (v:Value) (q:Nat):List (Nat × Value):=if q=0 then keep else (20,v)::keep
def TNQ (w:World) (B:Nat) (Q:Nat->Prop) (t:TN) (cs:List Value):Prop:=∃ (ka:Option Addr) (kn kc:Nat) (va:Option Addr) (vn vc:Nat) (oa:Option Addr) (on oc:Nat) (ya:Option Addr) (yn yc:Nat),cs=[.bool t.leaf,.int .i64 t.page,.slice ka kn kc,.slice va vn vc,.slice oa on oc,.slice ya yn yc]∧I64 t.page∧(StrsAt w 0 B ka kn kc t.keys∧QA Q ka kn)∧(StrsAt w 0 B va vn vc t.vals∧QA Q va vn)∧(IntsAt w 0 B oa on oc t.over∧QA Q oa on)∧IntsAt w 0 B ya yn yc t.kids∧QA Q ya yn
def TNO (w:World) (base:Nat) (t:TN) (cs:List Value):Prop:=(∀ r,r<4->w.ownsRow base (ety r) 1 (cs.getD (2+r) undef) (t.nd.l r).length (t.nd.l r))∧∀ r s,r<4->s<4->r≠s->∀ g,(cs.getD (2+r) undef).ownBlock=some g->(cs.getD (2+s) undef).ownBlock≠some g
structure CI (w wr:World) (N:Nat) (a:Option Addr) (n c:Nat) (ts:List TN) (j:Nat) (oa:Option Addr) (oc:Nat) (css:Nat->List Value):Prop where
 bel:Below N w wr
 sz:N+3<=wr.heap.size
 k0:wr.heap[N]?=some (.cells #[.slice a n c] 29)
 k1:wr.heap[N+1]?=some (.cells #[.slice none 0 0] 29)
 k2:wr.heap[N+2]?=some (.cells #[.slice oa j oc] 29)
 row:wr.ownsRow (N+3) 103 6 (.slice oa j oc) j (rowsC css j)
 nd:∀ i,i<j->TNQ wr wr.heap.size (fun b=>N+3<=b∧(Value.slice oa j oc).ownBlock≠some b) (ts.getD i dT) (css i)
 ow:∀ i,i<j->TNO wr (N+3) (ts.getD i dT) (css i)
 ap:∀ i k,i<j->k<j->i≠k->∀ r s,r<4->s<4->∀ g,((css i).getD (2+r) undef).ownBlock=some g->((css k).getD (2+s) undef).ownBlock≠some g
theorem topT_rd {ts:List TN} (h:SpecOk ts):topT ts=some (rd ts (ts.length+1) 0).1:=by
 have hi:=(valid_iff ts).1 h
 obtain⟨h1,t,met,e,h3,h4⟩:=hi
 obtain⟨a1,_⟩:=gr_some ts _ 0 _ _ _ _ (Nat.zero_le _) e
 rw[topT_yes ⟨h1,t,met,e,h3,h4⟩ e,a1]
def SpecTree (w:World) (r:Bool × List TN) (e:Ending) (w':World):Prop:=∃ oa oc,e=.returned (.agg #[.bool r.1,.slice oa r.2.length oc])∧NodesAt w' w.heap.size w'.heap.size oa r.2.length oc r.2∧Below w.heap.size w w'
structure Stand (ts:List TN) (u:T):Prop where
 ok:SpecOk ts
 top:topT ts=some u
 neat:Neat u
 nums:u.nums.Nodup
theorem stand_of {ts:List TN} (h:SpecOk ts):∃ u,Stand ts u:=by
 have ht:=topT_rd h
 obtain⟨h1,t,hr,h3,h4,h5,h6,h7,h8,h9⟩:=h
 rw[hr] at ht
 exact⟨t,⟨h1,t,hr,h3,h4,h5,h6,h7,h8,h9⟩,ht,topT_neat ht,h9⟩
theorem stand_flat {u:T} (h:SpecOk (u.flat 0)) (hr:rd (u.flat 0) ((u.flat 0).length+1) 0=(u,(u.flat 0).length,false)) (hn:Neat u) (hu:u.nums.Nodup):Stand (u.flat 0) u :=
 ⟨h,by rw[topT_rd h,hr],hn,hu⟩
theorem prs_keys (zs:List (ByteArray × ByteArray × Int)):zs.map (fun s=>s.1)=(zs.map prZ).map (fun p=>p.1):=by
 rw[List.map_map];rfl
theorem all_keys (zs:List (ByteArray × ByteArray × Int)):zs.all (fun s=>kyB s.1)=(zs.map (fun s=>s.1)).all kyB:=by
 rw[List.all_map];rfl
theorem Stand.place {ts:List TN} {u:T} (h:Stand ts u) {s:PSt} (hs:s.used.length=1000) (hu:∀ x ∈ u.nums,Us s x) (hb:(placeT u s).2.bad=false) :
  Stand ((placeT u s).1.flat 0) (placeT u s).1∧(placeT u s).1.slots.map prZ=u.slots.map prZ∧((placeT u s).1.flat 0).length=ts.length:=by
 obtain⟨_,_,hg,hsh,hht,hn,hso,hky⟩:=topT_good h.top
 have hp:=place_prs u ⟨true,hg⟩ s
 have hk:(placeT u s).1.slots.map (fun s=>s.1)=u.slots.map (fun s=>s.1):=by rw[prs_keys,hp,<-prs_keys]
 have hN:=place_neat u h.neat s
 have hU:=place_nodup hg hs h.nums hu hb
 obtain⟨h1,h2⟩:=flat_ok (place_good u true hg s hs hb) hN (by rw[place_ht];exact hht) (by rw[place_nodes];exact hn) (by rw[all_keys,hk,<-all_keys];exact hky) (by rw[hk];exact sort_ascB _ hso) hU
 refine⟨stand_flat h1 h2 hN hU,hp,?_⟩
 rw[flat_len _ hN.shape,place_nodes]
 obtain⟨_,t,hr,_,_,_,h6,_⟩:=h.ok
 have ht:=topT_rd h.ok
 rw[h.top,hr] at ht
 simp only[Option.some.injEq] at ht
 rw[ht,h6]
end Go.Proofs.YtkhglgalbifcnaaGreat
