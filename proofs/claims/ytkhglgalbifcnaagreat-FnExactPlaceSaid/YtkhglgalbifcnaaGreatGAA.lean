import Derived.WalkKit
import Derived.ProofKit
import Derived.OpenShut
import Derived.Below
import Derived.Deep.RegionHeld3
import Derived.Test.YtkhglgalbifcnaaGreatChecked
import Derived.OwnWalk
import Derived.Deep.QuietTactic
import Derived.BigQuiet
import Derived.Deep.RegionWith
import Derived.Laws.AppendOwnNone
import Derived.Deep.RegionLaw
import Derived.WalkSpells
import Derived.WalkLawsBesides
import Derived.Laws.IdiomStrings
namespace Go.Proofs.YtkhglgalbifcnaaGreat
set_option maxHeartbeats 400000
open Go.RowKit
set_option linter.unusedVariables false
set_option linter.unusedSimpArgs false
set_option maxRecDepth 100000
theorem bcell {W w1:World} (hb:Below W.heap.size W w1):(∀ b o,b<W.heap.size->w1.cell? ⟨b,o,none⟩=W.cell? ⟨b,o,none⟩)∧(∀ b o,b<W.heap.size->w1.frozen? ⟨b,o,none⟩=W.frozen? ⟨b,o,none⟩) :=
 ⟨fun b o h=>hb.cell (p:=⟨b,o,none⟩) h,fun b o h=>hb.frozen (p:=⟨b,o,none⟩) h⟩
theorem lt_of_cell {w:World} {b o:Nat} {v:Value} (h:w.cell? ⟨b,o,none⟩=some v):b<w.heap.size:=by
 by_cases hb:b<w.heap.size
 ·exact hb
 ·simp[World.cell?,Array.getElem?_eq_none (Nat.le_of_not_lt hb)] at h
abbrev PF:=ByteArray × List Int
abbrev PP:=ByteArray × Int × List Int
def BytesAt (w:World) (A B:Nat) (a:Option Addr) (n c:Nat) (bs:List Int):Prop :=
 bs.length=n∧n<=c∧c<=maxLen∧(∀ x ∈ bs,0<=x∧x<=255)∧(0<n->∃ b off,a=some ⟨b,off,none⟩∧(A<=b∧b<B)∧∀ i,i<n->w.cell? ⟨b,off+i,none⟩=some (.int .u8 (bs.getD i 0)))∧(a=none->c=0)
def Keeps (A B:Nat) (w w':World):Prop:=∀ k,A<=k->k<B->w'.heap[k]?=w.heap[k]?
theorem Keeps.of_below {A B:Nat} {w w':World} (h:Below B w w'):Keeps A B w w':=fun k _ hk=>h.block k hk
theorem Keeps.refl (A B:Nat) (w:World):Keeps A B w w:=fun _ _ _=>rfl
theorem Keeps.set {A B:Nat} {w w':World} (h:Keeps A B w w') {p:Addr} (hp:p.block<A∨B<=p.block) (u:Value):Keeps A B w (w'.setCell p u) :=
 fun k h1 h2=>(Below.heap_setCell w' p u k (by omega)).trans (h k h1 h2)
theorem Keeps.cell {A B:Nat} {w w':World} (h:Keeps A B w w') {b o:Nat} (h1:A<=b) (h2:b<B):w'.cell? ⟨b,o,none⟩=w.cell? ⟨b,o,none⟩:=World.cell?_of_block (w:=w) (a:=⟨b,o,none⟩) (h b h1 h2)
def FileIs (w:World) (A B b o:Nat) (f:PF):Prop :=
 w.cell? ⟨b,o,none⟩=some (.string f.1)∧f.1.size<=maxLen∧∃ a n c,w.cell? ⟨b,o+1,none⟩=some (.slice a n c)∧BytesAt w A B a n c f.2
def FilesAt (w:World) (A B:Nat) (a:Option Addr) (n c:Nat) (fs:List PF):Prop :=
 fs.length=n∧n<=c∧c<=maxLen∧(0<n->∃ b off,a=some ⟨b,off,none⟩∧(A<=b∧b<B)∧∀ i,i<n->FileIs w A B b (off+i*2) (fs.getD i (ByteArray.empty,[])))
def PendIs (w:World) (A B b o:Nat) (p:PP):Prop :=
 w.cell? ⟨b,o,none⟩=some (.string p.1)∧p.1.size<=maxLen∧w.cell? ⟨b,o+1,none⟩=some (.int .i64 p.2.1)∧(-9223372036854775808<=p.2.1∧p.2.1<=9223372036854775807)∧∃ a n c,w.cell? ⟨b,o+2,none⟩=some (.slice a n c)∧BytesAt w A B a n c p.2.2
def PendsAt (w:World) (A B:Nat) (a:Option Addr) (n c:Nat) (ps:List PP):Prop :=
 ps.length=n∧n<=c∧c<=maxLen∧(0<n->∃ b off,a=some ⟨b,off,none⟩∧(A<=b∧b<B)∧∀ i,i<n->PendIs w A B b (off+i*3) (ps.getD i (ByteArray.empty,0,[])))
theorem owns_below {w w':World} {base e size:Nat} {v:Value} {n:Nat} {xs:List Value} (h:w.ownsRow base e size v n xs) (hb:Below w.heap.size w w'):w'.ownsRow base e size v n xs:=by
 refine⟨h.1,?_⟩
 rcases h.2 with hn | ⟨g,cap,cur,rfl,hbg,hgg,rest⟩
 ·exact .inl hn
 ·refine .inr ⟨g,cap,cur,rfl,hbg,?_,rest⟩
  rw[hb.block g (Array.getElem?_eq_some_iff.1 hgg).1]
  exact hgg
def GotFiles (w:World) (g0:Nat) (xs:List Value) (fs:List PF) (k:Nat):Prop :=
 ∀ j,j<k->(fs.getD j (ByteArray.empty,[])).1.size<=maxLen∧∃ g m,xs[j*2]?=some (.string (fs.getD j (ByteArray.empty,[])).1)∧xs[j*2+1]?=some (.slice (some ⟨g,0,none⟩) m m)∧BytesAt w (g0+1) w.heap.size (some ⟨g,0,none⟩) m m (fs.getD j (ByteArray.empty,[])).2
def GotPends (w:World) (g0:Nat) (xs:List Value) (fs:List PP) (k:Nat):Prop :=
 ∀ j,j<k->(fs.getD j (ByteArray.empty,0,[])).1.size<=maxLen∧(-9223372036854775808<=(fs.getD j (ByteArray.empty,0,[])).2.1∧(fs.getD j (ByteArray.empty,0,[])).2.1<=9223372036854775807)∧∃ g m,xs[j*3]?=some (.string (fs.getD j (ByteArray.empty,0,[])).1)∧xs[j*3+1]?=some (.int .i64 (fs.getD j (ByteArray.empty,0,[])).2.1)∧xs[j*3+2]?=some (.slice (some ⟨g,0,none⟩) m m)∧BytesAt w (g0+1) w.heap.size (some ⟨g,0,none⟩) m m (fs.getD j (ByteArray.empty,0,[])).2.2
def wFile (f:PF):Int:=f.1.size+f.2.length
def wPend (p:PP):Int:=p.1.size+p.2.2.length
def wFiles:List PF->Int
 | []=>0
 | f::r=>wFile f+wFiles r
def wPends:List PP->Int
 | []=>0
 | f::r=>wPend f+wPends r
theorem take_snocD {α:Type} (l:List α) (k:Nat) (d:α) (h:k<l.length):l.take (k+1)=l.take k++[l.getD k d]:=by
 rw[List.take_succ_eq_append_getElem h];simp[List.getD,List.getElem?_eq_getElem h]
/-- The operation at a place of a list. -/
def At (l:List Oper) (i:Nat) (o:Oper):Prop:=l[i]?=some o
theorem At.z {o:Oper} {r:List Oper}:At (o::r) 0 o:=rfl
theorem At.s {a o:Oper} {r:List Oper} {i:Nat} (h:At r i o):At (a::r) (i+1) o:=h
theorem At.f {a b c d e o:Oper} {r:List Oper} {i:Nat} (h:At r i o):At (a::b::c::d::e::r) (i+5) o:=.s (.s (.s (.s (.s h))))
theorem At.t {a b c d e a' b' c' d' e' o:Oper} {r:List Oper} {i:Nat} (h:At r i o):At (a::b::c::d::e::a'::b'::c'::d'::e'::r) (i+10) o:=.f (.f h)
theorem At.get {l:List Oper} {i:Nat} {o:Oper} (h:At l i o):l.toArray[i]?=some o:=by
  unfold At at h
  simpa using h
theorem tkA {P:Program} {md:Region.Mode} {l:List Oper} {Q:Exit->Act->World->Prop} {S:World->Prop} {i:Nat} {oi:Oper} {v:Value} {fuel:Nat} {listed:Array Bool} {a:Act} {w:World} (hi:At l i oi)
    (hs:Region.noSelect l.toArray=true) (hf:Region.free md l.toArray listed i=true) (hr:(Region.ready md l.toArray listed).contains i=true)
    (hQ:∀ c a w,Q (.panic c) (a.put oi.dst v) w->Q (.panic c) a w) (hy:YieldsIf P l.toArray S oi v a) (hS:S w)
    (h:wpAnyH P md l.toArray Q S fuel (listed.setIfInBounds i true) (a.put oi.dst v) w):wpAnyH P md l.toArray Q S (fuel+1) listed a w :=
  wpAnyH_take hi.get hs hf hr hQ hy hS h
theorem tkB {P:Program} {md:Region.Mode} {l:List Oper} {Q:Exit->Act->World->Prop} {S:World->Prop} {i:Nat} {oi:Oper} {v:Value} {fuel:Nat} {listed:Array Bool} {a:Act} {w:World} (hi:At l i oi)
    (hs:(Region.noSelect l.toArray && Region.free md l.toArray listed i && (Region.ready md l.toArray listed).contains i)=true)
    (hQ:∀ c a w,Q (.panic c) (a.put oi.dst v) w->Q (.panic c) a w) (hy:YieldsIf P l.toArray S oi v a) (hS:S w)
    (h:wpAnyH P md l.toArray Q S fuel (listed.setIfInBounds i true) (a.put oi.dst v) w):wpAnyH P md l.toArray Q S (fuel+1) listed a w:=by
  simp only[Bool.and_eq_true] at hs
  exact wpAnyH_take hi.get hs.1.1 hs.1.2 hs.2 hQ hy hS h
theorem tY {P:Program} {md:Region.Mode} {l:List Oper} {Q:Exit->Act->World->Prop} {S:World->Prop} {oi:Oper} {fuel:Nat} {listed:Array Bool} {a:Act} {w:World} (i:Nat) (v:Value) (hi:At l i oi)
    (hs:(Region.noSelect l.toArray && Region.free md l.toArray listed i && (Region.ready md l.toArray listed).contains i)=true)
    (hw:Region.wanted oi (yielded l.toArray a.tmps)=true) (hy:∀ w,S w->(execOp a.eval oi).run P w=.ok (.value v) w) (hS:S w)
    (h:wpAnyH P md l.toArray (NoPanic Q) S fuel (listed.setIfInBounds i true) (a.put oi.dst v) w):wpAnyH P md l.toArray (NoPanic Q) S (fuel+1) listed a w :=
  tkB hi hs (fun _ _ _ h=>h) (Or.inl ⟨hw,hy⟩) hS h
theorem tS {P:Program} {md:Region.Mode} {l:List Oper} {Q:Exit->Act->World->Prop} {S:World->Prop} {oi:Oper} {fuel:Nat} {listed:Array Bool} {a:Act} {w:World} (i:Nat) (hi:At l i oi)
    (hs:(Region.noSelect l.toArray && Region.free md l.toArray listed i && (Region.ready md l.toArray listed).contains i)=true)
    (hw:Region.wanted oi (yielded l.toArray a.tmps)=false) (hS:S w)
    (h:wpAnyH P md l.toArray (NoPanic Q) S fuel (listed.setIfInBounds i true) (a.put oi.dst undef) w):wpAnyH P md l.toArray (NoPanic Q) S (fuel+1) listed a w :=
  tkB hi hs (fun _ _ _ h=>h) (Or.inr ⟨hw,rfl⟩) hS h
theorem q1 {α:Type} (l:List α) (i:Nat) (a:α):l.toArray.setIfInBounds i a=(l.set i a).toArray:=List.setIfInBounds_toArray ..
theorem q2 {α:Type} (l:List α) (a b:α):(a::l).set 0 b=b::l:=rfl
theorem q3 {α:Type} (l:List α) (i:Nat) (a b:α):(a::l).set (i+1) b=a::l.set i b:=rfl
theorem rdA {P:Program} {md:Region.Mode} {l:List Oper} {Q:Exit->Act->World->Prop} {S:World->Prop} {fuel:Nat} {listed:Array Bool} {a:Act} {w:World} {i:Nat} {o:Oper} {rs:List Nat} (ho:At l i o)
    (h:∀ K':Act->World->Prop,Shut (∀ a w,S w->(S w->wpAnyH P md l.toArray Q S fuel (listed.setIfInBounds i true) a w)->K' a w)->if Region.wanted o (yielded l.toArray a.tmps)=true then Oper.wp P o a w K' Q else K' (a.put o.dst undef) w)
    (hs:AllReadyH P md l.toArray Q S fuel listed a w rs):AllReadyH P md l.toArray Q S fuel listed a w (i::rs):=AllReadyH.cons ho.get h hs
def u8s (bs:List Int):List Value:=bs.map (Value.int .u8)
theorem own_shape {w:World} {base e size:Nat} {v:Value} {n:Nat} {xs:List Value} (h:w.ownsRow base e size v n xs):∃ a c,v=.slice a n c:=by
 rcases h.2 with ⟨rfl,rfl⟩ | ⟨g,cap,cur,rfl,_⟩
 ·exact⟨none,0,rfl⟩
 ·exact⟨_,_,rfl⟩
theorem step_append_own {P:Program} {ops:Array Oper} {o:Oper} {a:Act} {w:World} {K:Act->World->Prop} {Q:Exit->Act->World->Prop} {E:Prop}
  (hgd:o.guard=none) (s x:Operand) (t:TypeId) (ho:o.op=.call { callee:=.builtin .append,args:=#[s,x],argTypes:=#[t,t] })
  (base:Nat) (e:TypeId) (i:TypeInfo) (z:Value) (size bytes:Nat) (ht:P.underlying t=some (.slice e)) (hi:P.info? e=some i) (hz:i.zero=some z)
  (hsize:i.size=size) (hby:i.bytes=bytes) (hzs:z.cells.size=size) (hsz:0<size)
  (v:Value) (n:Nat) (xs:List Value) (hs:a.eval s=v) (hown:w.ownsRow base e size v n xs)
  (ad:Addr) (m c:Nat) (news:List Value) (hx:a.eval x=.slice (some ad) m c) (hl:news.length=m*size) (hnews:∀ j u,news[j]?=some u->w.cell? (ad.add j)=some u) (h1:∀ u ∈ news,u.oneCell'=true)
  (h63:n+m<=maxLen) (hbytes:(n+m)*bytes<=140737488355328) (hbase:base<=w.heap.size)
  (h:∀ v' w',w'.ownsRow base e size v' (n+m) (xs++news)->w.grownBy w' v.ownBlock->K (a.put o.dst v') w') :
  if Region.wanted o (yielded ops a.tmps)=true then Oper.wp P o a w K Q else E:=by
 rw[if_pos (by simp[Region.wanted,hgd])]
 exact wp_append_own w s x t ho base e i z size bytes ht hi hz hsize hby hzs hsz v n xs hs hown ad m c news hx hl hnews h1 h63 hbytes hbase fun v' w' h2 h3 _=>h v' w' h2 h3
structure Fr (S:Nat->Prop) (w w':World):Prop where
 os:w'.os=w.os
 tape:w'.tape=w.tape
 output:w'.output=w.output
 size:w.heap.size<=w'.heap.size
 block:∀ k,k<w.heap.size->¬ S k->w'.heap[k]?=w.heap[k]?
theorem Fr.refl (S:Nat->Prop) (w:World):Fr S w w:=⟨rfl,rfl,rfl,Nat.le_refl _,fun _ _ _=>rfl⟩
theorem Fr.trans {S:Nat->Prop} {a b c:World} (h:Fr S a b) (k:Fr S b c):Fr S a c :=
 ⟨k.os.trans h.os,k.tape.trans h.tape,k.output.trans h.output,Nat.le_trans h.size k.size,fun i hi hn=>(k.block i (Nat.lt_of_lt_of_le hi h.size) hn).trans (h.block i hi hn)⟩
theorem Fr.of_grown {S:Nat->Prop} {w w':World} {row:Option Nat} (h:w.grownBy w' row) (hS:∀ g,row=some g->S g):Fr S w w' :=
 ⟨h.os,h.tape,h.output,h.size,fun k hk hn=>h.block k hk (fun e=>hn (hS k e.symm))⟩
theorem Fr.of_below {S:Nat->Prop} {w w':World} (h:Below w.heap.size w w'):Fr S w w' :=
 ⟨h.os,h.tape,h.output,h.size,fun k hk _=>h.block k hk⟩
theorem Fr.weak {S T:Nat->Prop} {w w':World} (h:Fr S w w') (hS:∀ g,S g->T g):Fr T w w' :=
 ⟨h.os,h.tape,h.output,h.size,fun k hk hn=>h.block k hk (fun e=>hn (hS k e))⟩
theorem Fr.below {S:Nat->Prop} {w w':World} {B:Nat} (h:Fr S w w') (hB:B<=w.heap.size) (hS:∀ g,S g->B<=g):Below B w w' :=
 ⟨h.os,h.tape,h.output,h.size,fun k hk=>h.block k (by omega) (fun e=>by have:=hS k e;omega)⟩
theorem owns_fr {S:Nat->Prop} {w w':World} {base e size:Nat} {v:Value} {n:Nat} {xs:List Value} (h:w.ownsRow base e size v n xs) (hf:Fr S w w') (hS:∀ g,v.ownBlock=some g->¬ S g):w'.ownsRow base e size v n xs:=by
 refine⟨h.1,?_⟩
 rcases h.2 with hn | ⟨g,cap,cur,rfl,hb,hgg,rest⟩
 ·exact .inl hn
 ·refine .inr ⟨g,cap,cur,rfl,hb,?_,rest⟩
  rw[hf.block g (Array.getElem?_eq_some_iff.1 hgg).1 (hS g rfl)]
  exact hgg
abbrev PK:=ByteArray × Int
abbrev PE:=ByteArray × ByteArray × Int × Int
def dK:PK:=(ByteArray.empty,0)
def dE:PE:=(ByteArray.empty,ByteArray.empty,0,0)
def I64 (x:Int):Prop:=-9223372036854775808<=x∧x<=9223372036854775807
def kidCells (k:PK):List Value:=[.string k.1,.int .i64 k.2]
def entCells (e:PE):List Value:=[.string e.1,.string e.2.1,.int .i64 e.2.2.1,.int .i64 e.2.2.2]
def kidFit (k:PK):Prop:=k.1.size<=maxLen∧I64 k.2
def entFit (e:PE):Prop:=e.1.size<=maxLen∧e.2.1.size<=maxLen∧I64 e.2.2.1∧I64 e.2.2.2
def RowsAt {α:Type} (w:World) (A B:Nat) (m:Nat) (cs:α->List Value) (fit:α->Prop) (d:α) (a:Option Addr) (n c:Nat) (xs:List α):Prop :=
 xs.length=n∧n<=c∧c<=maxLen∧(∀ i,i<n->fit (xs.getD i d))∧(0<n->∃ b off,a=some ⟨b,off,none⟩∧(A<=b∧b<B)∧∀ i,i<n->∀ j,j<m->w.cell? ⟨b,off+i*m+j,none⟩=(cs (xs.getD i d))[j]?)
abbrev KidsAt (w:World) (A B:Nat) (a:Option Addr) (n c:Nat) (ks:List PK):Prop:=RowsAt w A B 2 kidCells kidFit dK a n c ks
abbrev EntsAt (w:World) (A B:Nat) (a:Option Addr) (n c:Nat) (es:List PE):Prop:=RowsAt w A B 4 entCells entFit dE a n c es
theorem RowsAt.keep {α:Type} {w w':World} {A B m:Nat} {cs:α->List Value} {fit:α->Prop} {d:α} {a:Option Addr} {n c:Nat} {xs:List α} (h:RowsAt w A B m cs fit d a n c xs) (hk:Keeps A B w w'):RowsAt w' A B m cs fit d a n c xs:=by
 obtain⟨h1,h2,h3,h4,h5⟩:=h
 refine⟨h1,h2,h3,h4,fun hn=>?_⟩
 obtain⟨b,off,rfl,hlt,hc⟩:=h5 hn
 exact⟨b,off,rfl,hlt,fun i hi j hj=>(hk.cell hlt.1 hlt.2).trans (hc i hi j hj)⟩
theorem RowsAt.below {α:Type} {w w':World} {A B m:Nat} {cs:α->List Value} {fit:α->Prop} {d:α} {a:Option Addr} {n c:Nat} {xs:List α} (h:RowsAt w A B m cs fit d a n c xs) (hb:Below B w w'):RowsAt w' A B m cs fit d a n c xs:=h.keep (.of_below hb)
theorem RowsAt.up {α:Type} {w:World} {A B A' B' m:Nat} {cs:α->List Value} {fit:α->Prop} {d:α} {a:Option Addr} {n c:Nat} {xs:List α} (h:RowsAt w A B m cs fit d a n c xs) (hA:A'<=A) (hB:B<=B'):RowsAt w A' B' m cs fit d a n c xs:=by
 obtain⟨h1,h2,h3,h4,h5⟩:=h
 refine⟨h1,h2,h3,h4,fun hn=>?_⟩
 obtain⟨b,off,rfl,hlt,hc⟩:=h5 hn
 exact⟨b,off,rfl,⟨by omega,by omega⟩,hc⟩
def rowsOf {α:Type} (cs:α->List Value) (xs:List α):List Value:=xs.flatMap cs
theorem rowsOf_get {α:Type} {m:Nat} {cs:α->List Value} (hm:∀ x,(cs x).length=m) (d:α):∀ (xs:List α) (i j:Nat),i<xs.length->j<m->(rowsOf cs xs)[i*m+j]?=(cs (xs.getD i d))[j]?
 | [],i,j,hi,_=>by simp at hi
 | x::r,0,j,_,hj=>by simp[rowsOf,List.getElem?_append_left (show j<(cs x).length by rw[hm];exact hj)]
 | x::r,i+1,j,hi,hj=>by
  rw[show (i+1)*m+j=m+(i*m+j) by rw[Nat.add_mul];omega]
  have:=rowsOf_get hm d r i j (by simpa using hi) hj
  simp only[rowsOf,List.flatMap_cons] at this ⊢
  rw[List.getElem?_append_right (by rw[hm];omega),hm,show m+(i*m+j) - m=i*m+j by omega,this]
  simp
theorem rowsOf_length {α:Type} {m:Nat} {cs:α->List Value} (hm:∀ x,(cs x).length=m):∀ (xs:List α),(rowsOf cs xs).length=xs.length*m
 | []=>by simp[rowsOf]
 | x::r=>by
  have:=rowsOf_length hm r
  simp only[rowsOf,List.flatMap_cons,List.length_append,List.length_cons,hm] at this ⊢
  rw[this,Nat.add_mul];omega
theorem RowsAt.of_owns {α:Type} {w:World} {base e m n:Nat} {cs:α->List Value} {fit:α->Prop} {d:α} {v:Value} {xs:List α} (hm:∀ x,(cs x).length=m) (h:w.ownsRow base e m v n (rowsOf cs xs)) (hl:xs.length=n) (hf:∀ i,i<n->fit (xs.getD i d)):∃ a c,v=.slice a n c∧RowsAt w base w.heap.size m cs fit d a n c xs:=by
 rcases h.2 with ⟨rfl,rfl⟩ | ⟨g,cap,cur,rfl,hg,hgg,h1,h2,_⟩
 ·exact⟨none,0,rfl,hl,Nat.le_refl _,Nat.zero_le _,hf,fun h=>absurd h (Nat.lt_irrefl _)⟩
 ·refine⟨_,_,rfl,hl,h1,h2,hf,fun hn=>⟨g,0,rfl,h.lt g rfl,fun i hi j hj=>?_⟩⟩
  have hlen:i*m+j<n*m:=by
   have:(i+1)*m<=n*m:=Nat.mul_le_mul_right m (by omega)
   rw[Nat.add_mul] at this;omega
  rw[Nat.zero_add,h.cellAt (i*m+j) hlen,rowsOf_get hm d xs i j (by omega) hj]
theorem owns_set {w:World} {base e size:Nat} {v:Value} {n:Nat} {xs:List Value} (h:w.ownsRow base e size v n xs) {p:Addr} (hp:∀ g,v.ownBlock=some g->p.block≠g) (u:Value):(w.setCell p u).ownsRow base e size v n xs:=by
 refine⟨h.1,?_⟩
 rcases h.2 with hn | ⟨g,cap,cur,rfl,hbg,hgg,rest⟩
 ·exact .inl hn
 ·exact .inr ⟨g,cap,cur,rfl,hbg,(Below.heap_setCell w p u g (fun e=>hp g rfl e.symm)).trans hgg,rest⟩
theorem owns_base {w:World} {base base' e size:Nat} {v:Value} {n:Nat} {xs:List Value} (h:w.ownsRow base e size v n xs) (hb:base'<=base):w.ownsRow base' e size v n xs:=by
 refine⟨h.1,?_⟩
 rcases h.2 with hn | ⟨g,cap,cur,rfl,hbg,rest⟩
 ·exact .inl hn
 ·exact .inr ⟨g,cap,cur,rfl,Nat.le_trans hb hbg,rest⟩
theorem kc2:∀ x,(kidCells x).length=2:=fun _=>rfl
theorem ec4:∀ x,(entCells x).length=4:=fun _=>rfl
theorem set_twoP {xs ys:List Value} {n k:Nat} {p:PK} {cs:List PK} (hl:cs.length=n) (hk:k<n) (hp:p=cs.getD k dK) (hx:xs.length=n*2) (h:∀ j,j<k*2->xs[j]?=(rowsOf kidCells cs)[j]?) :
  ∀ j,j<(k+1)*2->((xs.set (k*2) (.string p.1)).set (k*2+1) (.int .i64 p.2))[j]?=(rowsOf kidCells cs)[j]?:=by
 intro j hj
 have e0:=rowsOf_get kc2 dK cs k 0 (by omega) (by omega)
 have e1:=rowsOf_get kc2 dK cs k 1 (by omega) (by omega)
 by_cases h0:j=k*2
 ·subst h0
  rw[List.getElem?_set_ne (by omega),List.getElem?_set_self (by omega),hp]
  simpa[kidCells] using e0.symm
 ·by_cases h1:j=k*2+1
  ·subst h1
   rw[List.getElem?_set_self (by simp;omega),hp]
   simpa[kidCells] using e1.symm
  ·rw[List.getElem?_set_ne (by omega),List.getElem?_set_ne (by omega)]
   exact h j (by omega)
theorem set_four {xs:List Value} {n k:Nat} {p:PE} {cs:List PE} (hl:cs.length=n) (hk:k<n) (hp:p=cs.getD k dE) (hx:xs.length=n*4) (h:∀ j,j<k*4->xs[j]?=(rowsOf entCells cs)[j]?) :
  ∀ j,j<(k+1)*4->((((xs.set (k*4) (.string p.1)).set (k*4+1) (.string p.2.1)).set (k*4+2) (.int .i64 p.2.2.1)).set (k*4+3) (.int .i64 p.2.2.2))[j]?=(rowsOf entCells cs)[j]?:=by
 intro j hj
 have e0:=rowsOf_get ec4 dE cs k 0 (by omega) (by omega)
 have e1:=rowsOf_get ec4 dE cs k 1 (by omega) (by omega)
 have e2:=rowsOf_get ec4 dE cs k 2 (by omega) (by omega)
 have e3:=rowsOf_get ec4 dE cs k 3 (by omega) (by omega)
 by_cases h0:j=k*4
 ·subst h0
  rw[List.getElem?_set_ne (by omega),List.getElem?_set_ne (by omega),List.getElem?_set_ne (by omega),List.getElem?_set_self (by omega),hp]
  simpa[entCells] using e0.symm
 ·by_cases h1:j=k*4+1
  ·subst h1
   rw[List.getElem?_set_ne (by omega),List.getElem?_set_ne (by omega),List.getElem?_set_self (by simp;omega),hp]
   simpa[entCells] using e1.symm
  ·by_cases h2:j=k*4+2
   ·subst h2
    rw[List.getElem?_set_ne (by omega),List.getElem?_set_self (by simp;omega),hp]
    simpa[entCells] using e2.symm
   ·by_cases h3:j=k*4+3
    ·subst h3
     rw[List.getElem?_set_self (by simp;omega),hp]
     simpa[entCells] using e3.symm
    ·rw[List.getElem?_set_ne (by omega),List.getElem?_set_ne (by omega),List.getElem?_set_ne (by omega),List.getElem?_set_ne (by omega)]
     exact h j (by omega)
def digF:Nat->Nat->List UInt8->List UInt8
 | 0,_,out=>out
 | f+1,k,out=>if k=0 then out else digF f (k / 10) (UInt8.ofNat (48+k % 10)::out)
def mkS (k:Nat):ByteArray:=if k=0 then ⟨#[109,48]⟩ else ⟨(109::digF 40 k []).toArray⟩
theorem glue (x y:List UInt8):(⟨x.toArray⟩:ByteArray)++(⟨y.toArray⟩:ByteArray)=⟨(x++y).toArray⟩:=by
 rw[ByteArray.mk_append_mk]
theorem digit_run (kk:Nat) (wr:World):(convert 154 9 (.slice (some ⟨wr.heap.size,0,none⟩) 1 1)).run Tryz.prog (wr.alloc (.cells #[.int .u8 (48+(kk:Int) % 10)] 5))=.ok (.string ⟨#[UInt8.ofNat (48+kk % 10)]⟩) (wr.alloc (.cells #[.int .u8 (48+(kk:Int) % 10)] 5)):=by
 refine run_convert_bytes_back (P:=Tryz.prog) _ 154 9 5 ⟨wr.heap.size,0,none⟩ 1 [UInt8.ofNat (48+kk % 10)] Tryz.underlying154 Tryz.underlying5 Tryz.underlying9 ?_
 intro j hj
 simp at hj
 subst hj
 have e:(((UInt8.ofNat (48+kk % 10)).toNat:Nat):Int)=48+(kk:Int) % 10:=by
  rw[UInt8.toNat_ofNat']
  omega
 simp[Addr.add]
 omega
theorem markText_any (k:Nat) (w:World) (hk:k<=1099511627776) :
  Calls Tryz.prog 62 #[.int .i64 k] w fun e w'=>e=.returned (.string (mkS k))∧Below w.heap.size w w':=by
 by_cases h0:k=0
 ·subst h0
  go_enter Tryz.func62,Tryz.ntmps62
  go_wp2
  go_ret
  exact⟨rfl,Below.refl _ _⟩
 ·go_enter Tryz.func62,Tryz.ntmps62
  go_wp2
  go_loopw [0,3] (fun kv o wr=>∃ (kk f:Nat) (out:List UInt8),kv=.int .i64 kk∧kk<=1099511627776∧o=.string ⟨out.toArray⟩∧Hid (digF 40 k []=digF f kk out)∧Hid (kk<10 ^ f)∧out.length<=40∧Hid (out.length+f=40)∧Below w.heap.size w wr) (fun kv _ _=>(intOf kv).toNat)
  case atStart=>exact⟨k,40,[],rfl,hk,rfl,rfl,by show _<_;omega,by simp,by show _=_;simp,Below.refl _ _⟩
  case round =>
   obtain⟨kk,f,out,rfl,hkk,rfl,hd,hf,hol,hof,hbel⟩:=hrel
   by_cases hz:kk=0
   ·subst hz
    have HE:Hid ((⟨#[109]⟩:ByteArray)++⟨out.toArray⟩=mkS k):=by
     show _=_
     rw[show (⟨#[109]⟩:ByteArray)=⟨[109].toArray⟩ from rfl,glue]
     unfold mkS
     rw[if_neg h0,hd.out]
     cases f<;>simp[digF]
    go_wp2
    go_ret
    exact⟨by rw[<-HE.out];rfl,hbel⟩
   ·have hp:(0:Int)<(kk:Int):=by omega
    have hrun:=digit_run kk wr
    cases f with
    | zero=>have:=hf.out;simp at this;omega
    | succ f =>
     have HD:Hid (digF 40 k []=digF f (kk / 10) (UInt8.ofNat (48+kk % 10)::out)):=by
      show _=_
      rw[hd.out]
      simp[digF,hz]
     have HF:Hid (kk / 10<10 ^ f):=by
      have:=hf.out
      show kk / 10<10 ^ f
      rw[Nat.div_lt_iff_lt_mul (by omega),<-Nat.pow_succ]
      exact this
     have HG:Hid ((⟨#[UInt8.ofNat (48+kk % 10)]⟩:ByteArray)++⟨out.toArray⟩=⟨(UInt8.ofNat (48+kk % 10)::out).toArray⟩):=glue [UInt8.ofNat (48+kk % 10)] out
     have hlen:out.length+1<=40:=by have:=hof.out;omega
     have hof2:Hid ((UInt8.ofNat (48+kk % 10)::out).length+f=40):=by show _=_;have:=hof.out;simp;omega
     have hb2:=hbel.alloc hbel.size (.cells #[.int .u8 (48+(kk:Int) % 10)] 5)
     generalize UInt8.ofNat (48+kk % 10)=dg at *
     go_wp2
     go_roundw
     case rel=>exact⟨kk / 10,f,dg::out,by go_num,by omega,by rw[HG.out],HD,HF,by simpa using hlen,hof2,hb2⟩
     case measure=>simp[intOf];omega
def marks (k:Nat) (n:Nat):List Int:=(List.range n).map fun j=>((k+j:Nat):Int) % 256
def MarkRes (w w':World) (base:Nat) (v:Value) (n k:Nat):Prop:=w'.ownsRow base 5 1 v n (u8s (marks k n))∧w.grownBy w' v.ownBlock
def markK (k n:Nat):List PK:=(List.range n).map fun i=>(mkS (k+2*i),((k+2*i+1:Nat):Int))
def markE (k n:Nat):List PE:=(List.range n).map fun i=>(mkS (k+4*i),mkS (k+4*i+1),((k+4*i+2:Nat):Int),((k+4*i+3:Nat):Int))
theorem markK_len (k n:Nat):(markK k n).length=n:=by simp[markK]
theorem markE_len (k n:Nat):(markE k n).length=n:=by simp[markE]
theorem markK_get (k n i:Nat) (h:i<n):(markK k n).getD i dK=(mkS (k+2*i),((k+2*i+1:Nat):Int)):=by simp[markK,List.getD,h]
theorem markE_get (k n i:Nat) (h:i<n):(markE k n).getD i dE=(mkS (k+4*i),mkS (k+4*i+1),((k+4*i+2:Nat):Int),((k+4*i+3:Nat):Int)):=by simp[markE,List.getD,h]
theorem owns_some {w:World} {base e size n c:Nat} {a:Option Addr} {xs:List Value} (h:w.ownsRow base e size (.slice a n c) n xs) (hn:0<n):∃ g,a=some ⟨g,0,none⟩:=by
 rcases h.2 with ⟨h0,h1⟩ | ⟨g,cap,cur,h0,_⟩
 ·omega
 ·injection h0 with h1;exact⟨g,h1⟩
theorem fr_set {S:Nat->Prop} {w w':World} (h:Fr S w w') {g o:Nat} (hS:S g) (u:Value):Fr S w (w'.setCell ⟨g,o,none⟩ u) :=
 h.trans ⟨rfl,rfl,rfl,by simp[World.setCell],fun k _ hk=>Below.heap_setCell w' _ u k (fun e=>hk (e ▸ hS))⟩
theorem markKidS_any (a:Option Addr) (n c k base:Nat) (xs:List Value) (w:World) (h:w.ownsRow base 96 2 (.slice a n c) n xs) (hk:k+2*n<=1099511627776) :
  Calls Tryz.prog 60 #[.slice a n c,.int .i64 k] w fun e w'=>e=.returned (.int .i64 ((k+2*n:Nat):Int))∧w'.ownsRow base 96 2 (.slice a n c) n (rowsOf kidCells (markK k n))∧Fr (fun g=>(Value.slice a n c).ownBlock=some g) w w':=by
 go_enter Tryz.func60,Tryz.ntmps60
 go_wp2
 go_loopw [1,5] (fun kv i wr=>∃ (j:Nat) (ys:List Value),j<=n∧i=.int .i64 j∧kv=.int .i64 ((k+2*j:Nat):Int)∧wr.ownsRow base 96 2 (.slice a n c) n ys∧(∀ q,q<j*2->ys[q]?=(rowsOf kidCells (markK k n))[q]?)∧Fr (fun g=>(Value.slice a n c).ownBlock=some g) w wr) (fun _ i _=>n - (intOf i).toNat)
 case atStart=>exact⟨0,xs,Nat.zero_le _,rfl,rfl,h,fun q hq=>by omega,Fr.refl _ _⟩
 case round =>
  clear h
  obtain⟨j,ys,hj,rfl,rfl,hown,hgot,hfr⟩:=hrel
  have HG:Hid (∀ q,q<j*2->ys[q]?=(rowsOf kidCells (markK k n))[q]?):=hgot
  clear hgot
  by_cases hlt:j<n
  ·obtain⟨g,rfl⟩:=owns_some hown (by omega)
   have HS:Hid _:=set_twoP (ys:=[]) (markK_len k n) hlt (p:=(mkS (k+2*j),((k+2*j+1:Nat):Int))) (markK_get k n j hlt).symm hown.1 HG.out
   obtain⟨kj,hkj⟩:∃ kj,kj=k+2*j:=⟨_,rfl⟩
   rw[<-hkj] at HS ⊢
   have HKJ:Hid (kj=k+2*j):=hkj
   have hkb:kj<=1099511627776:=by omega
   clear hkj
   have hlt0:=(hown.lt g rfl).2
   go_wp2_with (go_at_call 62;refine (markText_any kj wr hkb).mono ?_;rintro e w1 ⟨rfl,hb1⟩;have hown2:=owns_below hown hb1;have hxl:=hown2.1;have hf1:=hown2.frozenAt (j*2);have hf2:=hown2.frozenAt (j*2+1);obtain⟨u,hu⟩:∃ u,w1.cell? ⟨g,j*2,none⟩=some u:=⟨ys[j*2]'(by omega),by rw[hown2.cellAt (j*2) (by omega)];exact List.getElem?_eq_getElem _⟩;obtain⟨u2,hu2⟩:∃ u,w1.cell? ⟨g,j*2+1,none⟩=some u:=⟨ys[j*2+1]'(by omega),by rw[hown2.cellAt (j*2+1) (by omega)];exact List.getElem?_eq_getElem _⟩;have HO:Hid (w1.ownsRow base 96 2 (.slice (some ⟨g,0,none⟩) n c) n ys):=hown2;clear hown2 hown)
   have HK2:Hid (((kj:Int)+1+1)=((k+2*(j+1):Nat):Int)):=by show _=_;have:=HKJ.out;omega
   have R:=(HO.out.stored (j*2) (.string (mkS kj))).1.stored (j*2+1) (.int .i64 ((kj:Int)+1))
   go_roundw
   case rel=>exact⟨j+1,_,by omega,by go_num,by rw[HK2.out],R.1,by have:=HS.out;simpa using this,fr_set (fr_set (hfr.trans (Fr.of_below hb1)) rfl _) rfl _⟩
   case measure=>simp[intOf];omega
  ·go_wp2
   go_ret
   have hkn:j=n:=by omega
   subst hkn
   refine⟨rfl,?_,hfr⟩
   rw[show rowsOf kidCells (markK k j)=ys from ?_]
   ·exact hown
   ·refine (List.ext_getElem? fun q=>?_).symm
    by_cases hq:q<j*2
    ·exact HG.out q (by omega)
    ·rw[List.getElem?_eq_none (by rw[hown.1];omega),List.getElem?_eq_none (by rw[rowsOf_length kc2,markK_len];omega)]
theorem markEntS_any (a:Option Addr) (n c k base:Nat) (xs:List Value) (w:World) (h:w.ownsRow base 98 4 (.slice a n c) n xs) (hk:k+4*n<=1099511627776) :
  Calls Tryz.prog 61 #[.slice a n c,.int .i64 k] w fun e w'=>e=.returned (.int .i64 ((k+4*n:Nat):Int))∧w'.ownsRow base 98 4 (.slice a n c) n (rowsOf entCells (markE k n))∧Fr (fun g=>(Value.slice a n c).ownBlock=some g) w w':=by
 go_enter Tryz.func61,Tryz.ntmps61
 go_wp2
 go_loopw [1,5] (fun kv i wr=>∃ (j:Nat) (ys:List Value),j<=n∧i=.int .i64 j∧kv=.int .i64 ((k+4*j:Nat):Int)∧wr.ownsRow base 98 4 (.slice a n c) n ys∧(∀ q,q<j*4->ys[q]?=(rowsOf entCells (markE k n))[q]?)∧Fr (fun g=>(Value.slice a n c).ownBlock=some g) w wr) (fun _ i _=>n - (intOf i).toNat)
 case atStart=>exact⟨0,xs,Nat.zero_le _,rfl,rfl,h,fun q hq=>by omega,Fr.refl _ _⟩
 case round =>
  clear h
  obtain⟨j,ys,hj,rfl,rfl,hown,hgot,hfr⟩:=hrel
  have HG:Hid (∀ q,q<j*4->ys[q]?=(rowsOf entCells (markE k n))[q]?):=hgot
  clear hgot
  by_cases hlt:j<n
  ·obtain⟨g,rfl⟩:=owns_some hown (by omega)
   have HS:Hid _:=set_four (markE_len k n) hlt (p:=(mkS (k+4*j),mkS (k+4*j+1),((k+4*j+2:Nat):Int),((k+4*j+3:Nat):Int))) (markE_get k n j hlt).symm hown.1 HG.out
   obtain⟨kj,hkj⟩:∃ kj,kj=k+4*j:=⟨_,rfl⟩
   rw[<-hkj] at HS ⊢
   have HKJ:Hid (kj=k+4*j):=hkj
   have hkb:kj+4<=1099511627776:=by omega
   clear hkj
   have hlt0:=(hown.lt g rfl).2
   go_wp2_with (first
    | (go_at_call 62;refine (markText_any (kj+1) (w1.setCell ⟨g,j*4,none⟩ (.string (mkS kj))) (by omega)).mono ?_;rintro e w2 ⟨rfl,hb2⟩;have hown3:=owns_below (HO.out.stored (j*4) (.string (mkS kj))).1 hb2;have hxl2:=hown3.1;have hf1:=hown3.frozenAt (j*4+1);have hf2:=hown3.frozenAt (j*4+2);have hf3:=hown3.frozenAt (j*4+3);obtain⟨u1,hu1⟩:∃ u,w2.cell? ⟨g,j*4+1,none⟩=some u:=⟨_,by rw[hown3.cellAt (j*4+1) (by omega)];exact List.getElem?_eq_getElem (by omega)⟩;obtain⟨u2,hu2⟩:∃ u,w2.cell? ⟨g,j*4+2,none⟩=some u:=⟨_,by rw[hown3.cellAt (j*4+2) (by omega)];exact List.getElem?_eq_getElem (by omega)⟩;obtain⟨u3,hu3⟩:∃ u,w2.cell? ⟨g,j*4+3,none⟩=some u:=⟨_,by rw[hown3.cellAt (j*4+3) (by omega)];exact List.getElem?_eq_getElem (by omega)⟩;have HO3:Hid (w2.ownsRow base 98 4 (.slice (some ⟨g,0,none⟩) n c) n (ys.set (j*4) (.string (mkS kj)))):=hown3;clear hown3)
    | (go_at_call 62;refine (markText_any kj wr (by omega)).mono ?_;rintro e w1 ⟨rfl,hb1⟩;have hown2:=owns_below hown hb1;have hxl:=hown2.1;have hf0:=hown2.frozenAt (j*4);obtain⟨u,hu⟩:∃ u,w1.cell? ⟨g,j*4,none⟩=some u:=⟨ys[j*4]'(by omega),by rw[hown2.cellAt (j*4) (by omega)];exact List.getElem?_eq_getElem _⟩;have HO:Hid (w1.ownsRow base 98 4 (.slice (some ⟨g,0,none⟩) n c) n ys):=hown2;clear hown2 hown))
   have HK2:Hid (((kj:Int)+1+1+1+1)=((k+4*(j+1):Nat):Int)):=by show _=_;have:=HKJ.out;omega
   have R:=((HO3.out.stored (j*4+1) (.string (mkS (kj+1)))).1.stored (j*4+2) (.int .i64 ((kj:Int)+1+1))).1.stored (j*4+3) (.int .i64 ((kj:Int)+1+1+1))
   go_roundw
   case rel=>exact⟨j+1,_,by omega,by go_num,by rw[HK2.out],R.1,by rw[show (kj:Int)+1+1=((kj+2:Nat):Int) by omega,show ((kj+2:Nat):Int)+1=((kj+3:Nat):Int) by omega];exact HS.out,fr_set (fr_set (fr_set ((fr_set (hfr.trans (Fr.of_below hb1)) rfl _).trans (Fr.of_below hb2)) rfl _) rfl _) rfl _⟩
   case measure=>simp[intOf];omega
  ·go_wp2
   go_ret
   have hkn:j=n:=by omega
   subst hkn
   refine⟨rfl,?_,hfr⟩
   rw[show rowsOf entCells (markE k j)=ys from ?_]
   ·exact hown
   ·refine (List.ext_getElem? fun q=>?_).symm
    by_cases hq:q<j*4
    ·exact HG.out q (by omega)
    ·rw[List.getElem?_eq_none (by rw[hown.1];omega),List.getElem?_eq_none (by rw[rowsOf_length ec4,markE_len];omega)]
end Go.Proofs.YtkhglgalbifcnaaGreat
