import Derived.WalkKit
import Derived.ProofKit
import Derived.OpenShut
import Derived.Below
import Derived.Test.YtbfggcekifaldaaGreatChecked
import Derived.OwnWalk
import Derived.Deep.QuietTactic
import Derived.BigQuiet
import Derived.Deep.RegionWith
import Derived.Laws.AppendOwnNone
import Derived.Deep.RegionLaw
namespace Go.Proofs.YtbfggcekifaldaaGreat
open Go.RowKit
set_option linter.unusedVariables false
set_option linter.unusedSimpArgs false
set_option maxRecDepth 100000
theorem lt_of_cell {w:World} {b o:Nat} {v:Value} (h:w.cell? ⟨b,o,none⟩=some v):b<w.heap.size:=by
 by_cases hb:b<w.heap.size
 ·exact hb
 ·simp [World.cell?,Array.getElem?_eq_none (Nat.le_of_not_lt hb)] at h
abbrev PF:=ByteArray × List Int
abbrev PP:=ByteArray × Int × List Int
def BytesAt (w:World) (A B:Nat) (a:Option Addr) (n c:Nat) (bs:List Int):Prop :=
 bs.length=n∧n<=c∧c<=maxLen∧(∀ x ∈ bs,0<=x∧x<=255)∧(0<n->∃ b off,a=some ⟨b,off,none⟩∧(A<=b∧b<B)∧∀ i,i<n->w.cell? ⟨b,off+i,none⟩=some (.int .u8 (bs.getD i 0)))∧(a=none->c=0)
def Keeps (A B:Nat) (w w':World):Prop:=∀ k,A<=k->k<B->w'.heap[k]?=w.heap[k]?
theorem Keeps.of_below {A B:Nat} {w w':World} (h:Below B w w'):Keeps A B w w':=fun k _ hk=>h.block k hk
theorem Keeps.refl (A B:Nat) (w:World):Keeps A B w w:=fun _ _ _=>rfl
theorem Keeps.set {A B:Nat} {w w':World} (h:Keeps A B w w') {p:Addr} (hp:p.block<A∨B<=p.block) (u:Value):Keeps A B w (w'.setCell p u) :=
 fun k h1 h2=>(Below.heap_setCell w' p u k (by omega)).trans (h k h1 h2)
theorem Keeps.cell {A B:Nat} {w w':World} (h:Keeps A B w w') {b o:Nat} (h1:A<=b) (h2:b<B):w'.cell? ⟨b,o,none⟩=w.cell? ⟨b,o,none⟩:=World.cell?_of_block (w:=w) (a:=⟨b,o,none⟩) (h b h1 h2)
def FileIs (w:World) (A B b o:Nat) (f:PF):Prop :=
 w.cell? ⟨b,o,none⟩=some (.string f.1)∧f.1.size<=maxLen∧∃ a n c,w.cell? ⟨b,o+1,none⟩=some (.slice a n c)∧BytesAt w A B a n c f.2
def FilesAt (w:World) (A B:Nat) (a:Option Addr) (n c:Nat) (fs:List PF):Prop :=
 fs.length=n∧n<=c∧c<=maxLen∧(0<n->∃ b off,a=some ⟨b,off,none⟩∧(A<=b∧b<B)∧∀ i,i<n->FileIs w A B b (off+i*2) (fs.getD i (ByteArray.empty,[])))
def PendIs (w:World) (A B b o:Nat) (p:PP):Prop :=
 w.cell? ⟨b,o,none⟩=some (.string p.1)∧p.1.size<=maxLen∧w.cell? ⟨b,o+1,none⟩=some (.int .i64 p.2.1)∧(-9223372036854775808<=p.2.1∧p.2.1<=9223372036854775807)∧∃ a n c,w.cell? ⟨b,o+2,none⟩=some (.slice a n c)∧BytesAt w A B a n c p.2.2
def PendsAt (w:World) (A B:Nat) (a:Option Addr) (n c:Nat) (ps:List PP):Prop :=
 ps.length=n∧n<=c∧c<=maxLen∧(0<n->∃ b off,a=some ⟨b,off,none⟩∧(A<=b∧b<B)∧∀ i,i<n->PendIs w A B b (off+i*3) (ps.getD i (ByteArray.empty,0,[])))
theorem owns_below {w w':World} {base e size:Nat} {v:Value} {n:Nat} {xs:List Value} (h:w.ownsRow base e size v n xs) (hb:Below w.heap.size w w'):w'.ownsRow base e size v n xs:=by
 refine ⟨h.1,?_⟩
 rcases h.2 with hn | ⟨g,cap,cur,rfl,hbg,hgg,rest⟩
 ·exact .inl hn
 ·refine .inr ⟨g,cap,cur,rfl,hbg,?_,rest⟩
  rw [hb.block g (Array.getElem?_eq_some_iff.1 hgg).1]
  exact hgg
def GotFiles (w:World) (g0:Nat) (xs:List Value) (fs:List PF) (k:Nat):Prop :=
 ∀ j,j<k->(fs.getD j (ByteArray.empty,[])).1.size<=maxLen∧∃ g m,xs[j*2]?=some (.string (fs.getD j (ByteArray.empty,[])).1)∧xs[j*2+1]?=some (.slice (some ⟨g,0,none⟩) m m)∧BytesAt w (g0+1) w.heap.size (some ⟨g,0,none⟩) m m (fs.getD j (ByteArray.empty,[])).2
def GotPends (w:World) (g0:Nat) (xs:List Value) (fs:List PP) (k:Nat):Prop :=
 ∀ j,j<k->(fs.getD j (ByteArray.empty,0,[])).1.size<=maxLen∧(-9223372036854775808<=(fs.getD j (ByteArray.empty,0,[])).2.1∧(fs.getD j (ByteArray.empty,0,[])).2.1<=9223372036854775807)∧∃ g m,xs[j*3]?=some (.string (fs.getD j (ByteArray.empty,0,[])).1)∧xs[j*3+1]?=some (.int .i64 (fs.getD j (ByteArray.empty,0,[])).2.1)∧xs[j*3+2]?=some (.slice (some ⟨g,0,none⟩) m m)∧BytesAt w (g0+1) w.heap.size (some ⟨g,0,none⟩) m m (fs.getD j (ByteArray.empty,0,[])).2.2
def wFile (f:PF):Int:=f.1.size+f.2.length
def wPend (p:PP):Int:=p.1.size+p.2.2.length
def wFiles:List PF->Int
 | []=>0
 | f::r=>wFile f+wFiles r
def wPends:List PP->Int
 | []=>0
 | f::r=>wPend f+wPends r
theorem take_snocD {α:Type} (l:List α) (k:Nat) (d:α) (h:k<l.length):l.take (k+1)=l.take k++[l.getD k d]:=by
 rw [List.take_succ_eq_append_getElem h];simp [List.getD,List.getElem?_eq_getElem h]
def u8s (bs:List Int):List Value:=bs.map (Value.int .u8)
theorem own_shape {w:World} {base e size:Nat} {v:Value} {n:Nat} {xs:List Value} (h:w.ownsRow base e size v n xs):∃ a c,v=.slice a n c:=by
 rcases h.2 with ⟨rfl,rfl⟩ | ⟨g,cap,cur,rfl,_⟩
 ·exact ⟨none,0,rfl⟩
 ·exact ⟨_,_,rfl⟩
theorem step_append_own {P:Program} {ops:Array Oper} {o:Oper} {a:Act} {w:World} {K:Act->World->Prop} {Q:Exit->Act->World->Prop} {E:Prop}
  (hgd:o.guard=none) (s x:Operand) (t:TypeId) (ho:o.op=.call { callee:=.builtin .append,args:=#[s,x],argTypes:=#[t,t] })
  (base:Nat) (e:TypeId) (i:TypeInfo) (z:Value) (size bytes:Nat) (ht:P.underlying t=some (.slice e)) (hi:P.info? e=some i) (hz:i.zero=some z)
  (hsize:i.size=size) (hby:i.bytes=bytes) (hzs:z.cells.size=size) (hsz:0<size)
  (v:Value) (n:Nat) (xs:List Value) (hs:a.eval s=v) (hown:w.ownsRow base e size v n xs)
  (ad:Addr) (m c:Nat) (news:List Value) (hx:a.eval x=.slice (some ad) m c) (hl:news.length=m*size) (hnews:∀ j u,news[j]?=some u->w.cell? (ad.add j)=some u) (h1:∀ u ∈ news,u.oneCell'=true)
  (h63:n+m<=maxLen) (hbytes:(n+m)*bytes<=140737488355328) (hbase:base<=w.heap.size)
  (h:∀ v' w',w'.ownsRow base e size v' (n+m) (xs++news)->w.grownBy w' v.ownBlock->K (a.put o.dst v') w') :
  if Region.wanted o (yielded ops a.tmps)=true then Oper.wp P o a w K Q else E:=by
 rw [if_pos (by simp [Region.wanted,hgd])]
 exact wp_append_own w s x t ho base e i z size bytes ht hi hz hsize hby hzs hsz v n xs hs hown ad m c news hx hl hnews h1 h63 hbytes hbase fun v' w' h2 h3 _=>h v' w' h2 h3
structure Fr (S:Nat->Prop) (w w':World):Prop where
 os:w'.os=w.os
 tape:w'.tape=w.tape
 output:w'.output=w.output
 size:w.heap.size<=w'.heap.size
 block:∀ k,k<w.heap.size->¬ S k->w'.heap[k]?=w.heap[k]?
theorem Fr.refl (S:Nat->Prop) (w:World):Fr S w w:=⟨rfl,rfl,rfl,Nat.le_refl _,fun _ _ _=>rfl⟩
theorem Fr.trans {S:Nat->Prop} {a b c:World} (h:Fr S a b) (k:Fr S b c):Fr S a c :=
 ⟨k.os.trans h.os,k.tape.trans h.tape,k.output.trans h.output,Nat.le_trans h.size k.size,fun i hi hn=>(k.block i (Nat.lt_of_lt_of_le hi h.size) hn).trans (h.block i hi hn)⟩
theorem Fr.of_grown {S:Nat->Prop} {w w':World} {row:Option Nat} (h:w.grownBy w' row) (hS:∀ g,row=some g->S g):Fr S w w' :=
 ⟨h.os,h.tape,h.output,h.size,fun k hk hn=>h.block k hk (fun e=>hn (hS k e.symm))⟩
theorem Fr.of_below {S:Nat->Prop} {w w':World} (h:Below w.heap.size w w'):Fr S w w' :=
 ⟨h.os,h.tape,h.output,h.size,fun k hk _=>h.block k hk⟩
theorem Fr.weak {S T:Nat->Prop} {w w':World} (h:Fr S w w') (hS:∀ g,S g->T g):Fr T w w' :=
 ⟨h.os,h.tape,h.output,h.size,fun k hk hn=>h.block k hk (fun e=>hn (hS k e))⟩
theorem Fr.below {S:Nat->Prop} {w w':World} {B:Nat} (h:Fr S w w') (hB:B<=w.heap.size) (hS:∀ g,S g->B<=g):Below B w w' :=
 ⟨h.os,h.tape,h.output,h.size,fun k hk=>h.block k (by omega) (fun e=>by have:=hS k e;omega)⟩
theorem owns_fr {S:Nat->Prop} {w w':World} {base e size:Nat} {v:Value} {n:Nat} {xs:List Value} (h:w.ownsRow base e size v n xs) (hf:Fr S w w') (hS:∀ g,v.ownBlock=some g->¬ S g):w'.ownsRow base e size v n xs:=by
 refine ⟨h.1,?_⟩
 rcases h.2 with hn | ⟨g,cap,cur,rfl,hb,hgg,rest⟩
 ·exact .inl hn
 ·refine .inr ⟨g,cap,cur,rfl,hb,?_,rest⟩
  rw [hf.block g (Array.getElem?_eq_some_iff.1 hgg).1 (hS g rfl)]
  exact hgg
abbrev PK:=ByteArray × Int
abbrev PE:=ByteArray × ByteArray × Int × Int
def dK:PK:=(ByteArray.empty,0)
def dE:PE:=(ByteArray.empty,ByteArray.empty,0,0)
def I64 (x:Int):Prop:=-9223372036854775808<=x∧x<=9223372036854775807
def kidCells (k:PK):List Value:=[.string k.1,.int .i64 k.2]
def entCells (e:PE):List Value:=[.string e.1,.string e.2.1,.int .i64 e.2.2.1,.int .i64 e.2.2.2]
def kidFit (k:PK):Prop:=k.1.size<=maxLen∧I64 k.2
def entFit (e:PE):Prop:=e.1.size<=maxLen∧e.2.1.size<=maxLen∧I64 e.2.2.1∧I64 e.2.2.2
def RowsAt {α:Type} (w:World) (A B:Nat) (m:Nat) (cs:α->List Value) (fit:α->Prop) (d:α) (a:Option Addr) (n c:Nat) (xs:List α):Prop :=
 xs.length=n∧n<=c∧c<=maxLen∧(∀ i,i<n->fit (xs.getD i d))∧(0<n->∃ b off,a=some ⟨b,off,none⟩∧(A<=b∧b<B)∧∀ i,i<n->∀ j,j<m->w.cell? ⟨b,off+i*m+j,none⟩=(cs (xs.getD i d))[j]?)
abbrev KidsAt (w:World) (A B:Nat) (a:Option Addr) (n c:Nat) (ks:List PK):Prop:=RowsAt w A B 2 kidCells kidFit dK a n c ks
abbrev EntsAt (w:World) (A B:Nat) (a:Option Addr) (n c:Nat) (es:List PE):Prop:=RowsAt w A B 4 entCells entFit dE a n c es
theorem RowsAt.keep {α:Type} {w w':World} {A B m:Nat} {cs:α->List Value} {fit:α->Prop} {d:α} {a:Option Addr} {n c:Nat} {xs:List α} (h:RowsAt w A B m cs fit d a n c xs) (hk:Keeps A B w w'):RowsAt w' A B m cs fit d a n c xs:=by
 obtain ⟨h1,h2,h3,h4,h5⟩:=h
 refine ⟨h1,h2,h3,h4,fun hn=>?_⟩
 obtain ⟨b,off,rfl,hlt,hc⟩:=h5 hn
 exact ⟨b,off,rfl,hlt,fun i hi j hj=>(hk.cell hlt.1 hlt.2).trans (hc i hi j hj)⟩
theorem RowsAt.below {α:Type} {w w':World} {A B m:Nat} {cs:α->List Value} {fit:α->Prop} {d:α} {a:Option Addr} {n c:Nat} {xs:List α} (h:RowsAt w A B m cs fit d a n c xs) (hb:Below B w w'):RowsAt w' A B m cs fit d a n c xs:=h.keep (.of_below hb)
theorem RowsAt.up {α:Type} {w:World} {A B A' B' m:Nat} {cs:α->List Value} {fit:α->Prop} {d:α} {a:Option Addr} {n c:Nat} {xs:List α} (h:RowsAt w A B m cs fit d a n c xs) (hA:A'<=A) (hB:B<=B'):RowsAt w A' B' m cs fit d a n c xs:=by
 obtain ⟨h1,h2,h3,h4,h5⟩:=h
 refine ⟨h1,h2,h3,h4,fun hn=>?_⟩
 obtain ⟨b,off,rfl,hlt,hc⟩:=h5 hn
 exact ⟨b,off,rfl,⟨by omega,by omega⟩,hc⟩
def rowsOf {α:Type} (cs:α->List Value) (xs:List α):List Value:=xs.flatMap cs
theorem rowsOf_get {α:Type} {m:Nat} {cs:α->List Value} (hm:∀ x,(cs x).length=m) (d:α):∀ (xs:List α) (i j:Nat),i<xs.length->j<m->(rowsOf cs xs)[i*m+j]?=(cs (xs.getD i d))[j]?
 | [],i,j,hi,_=>by simp at hi
 | x::r,0,j,_,hj=>by simp [rowsOf,List.getElem?_append_left (show j<(cs x).length by rw [hm];exact hj)]
 | x::r,i+1,j,hi,hj=>by
  rw [show (i+1)*m+j=m+(i*m+j) by rw [Nat.add_mul];omega]
  have:=rowsOf_get hm d r i j (by simpa using hi) hj
  simp only [rowsOf,List.flatMap_cons] at this ⊢
  rw [List.getElem?_append_right (by rw [hm];omega),hm,show m+(i*m+j) - m=i*m+j by omega,this]
  simp
theorem rowsOf_length {α:Type} {m:Nat} {cs:α->List Value} (hm:∀ x,(cs x).length=m):∀ (xs:List α),(rowsOf cs xs).length=xs.length*m
 | []=>by simp [rowsOf]
 | x::r=>by
  have:=rowsOf_length hm r
  simp only [rowsOf,List.flatMap_cons,List.length_append,List.length_cons,hm] at this ⊢
  rw [this,Nat.add_mul];omega
theorem RowsAt.of_owns {α:Type} {w:World} {base e m n:Nat} {cs:α->List Value} {fit:α->Prop} {d:α} {v:Value} {xs:List α} (hm:∀ x,(cs x).length=m) (h:w.ownsRow base e m v n (rowsOf cs xs)) (hl:xs.length=n) (hf:∀ i,i<n->fit (xs.getD i d)):∃ a c,v=.slice a n c∧RowsAt w base w.heap.size m cs fit d a n c xs:=by
 rcases h.2 with ⟨rfl,rfl⟩ | ⟨g,cap,cur,rfl,hg,hgg,h1,h2,_⟩
 ·exact ⟨none,0,rfl,hl,Nat.le_refl _,Nat.zero_le _,hf,fun h=>absurd h (Nat.lt_irrefl _)⟩
 ·refine ⟨_,_,rfl,hl,h1,h2,hf,fun hn=>⟨g,0,rfl,h.lt g rfl,fun i hi j hj=>?_⟩⟩
  have hlen:i*m+j<n*m:=by
   have:(i+1)*m<=n*m:=Nat.mul_le_mul_right m (by omega)
   rw [Nat.add_mul] at this;omega
  rw [Nat.zero_add,h.cellAt (i*m+j) hlen,rowsOf_get hm d xs i j (by omega) hj]
theorem owns_set {w:World} {base e size:Nat} {v:Value} {n:Nat} {xs:List Value} (h:w.ownsRow base e size v n xs) {p:Addr} (hp:∀ g,v.ownBlock=some g->p.block≠g) (u:Value):(w.setCell p u).ownsRow base e size v n xs:=by
 refine ⟨h.1,?_⟩
 rcases h.2 with hn | ⟨g,cap,cur,rfl,hbg,hgg,rest⟩
 ·exact .inl hn
 ·exact .inr ⟨g,cap,cur,rfl,hbg,(Below.heap_setCell w p u g (fun e=>hp g rfl e.symm)).trans hgg,rest⟩
theorem owns_base {w:World} {base base' e size:Nat} {v:Value} {n:Nat} {xs:List Value} (h:w.ownsRow base e size v n xs) (hb:base'<=base):w.ownsRow base' e size v n xs:=by
 refine ⟨h.1,?_⟩
 rcases h.2 with hn | ⟨g,cap,cur,rfl,hbg,rest⟩
 ·exact .inl hn
 ·exact .inr ⟨g,cap,cur,rfl,Nat.le_trans hb hbg,rest⟩
def strCells (s:ByteArray):List Value:=[.string s]
def intCells (x:Int):List Value:=[.int .i64 x]
def strFit (s:ByteArray):Prop:=s.size<=maxLen
abbrev StrsAt (w:World) (A B:Nat) (a:Option Addr) (n c:Nat) (xs:List ByteArray):Prop:=RowsAt w A B 1 strCells strFit ByteArray.empty a n c xs
abbrev IntsAt (w:World) (A B:Nat) (a:Option Addr) (n c:Nat) (xs:List Int):Prop:=RowsAt w A B 1 intCells I64 0 a n c xs
theorem sc1:∀ x,(strCells x).length=1:=fun _=>rfl
theorem ic1:∀ x,(intCells x).length=1:=fun _=>rfl
theorem StrsAt.at {w:World} {A B:Nat} {a:Option Addr} {n c:Nat} {xs:List ByteArray} (h:StrsAt w A B a n c xs) {i:Nat} (hi:i<n) :
  ∃ b off,a=some ⟨b,off,none⟩∧(A<=b∧b<B)∧(xs.getD i ByteArray.empty).size<=maxLen∧w.cell? ⟨b,off+i,none⟩=some (.string (xs.getD i ByteArray.empty)):=by
 obtain ⟨h1,h2,h3,h4,h5⟩:=h
 obtain ⟨b,off,rfl,hlt,hc⟩:=h5 (by omega)
 exact ⟨b,off,rfl,hlt,h4 i hi,by simpa [strCells] using hc i hi 0 (by omega)⟩
theorem IntsAt.at {w:World} {A B:Nat} {a:Option Addr} {n c:Nat} {xs:List Int} (h:IntsAt w A B a n c xs) {i:Nat} (hi:i<n) :
  ∃ b off,a=some ⟨b,off,none⟩∧(A<=b∧b<B)∧I64 (xs.getD i 0)∧w.cell? ⟨b,off+i,none⟩=some (.int .i64 (xs.getD i 0)):=by
 obtain ⟨h1,h2,h3,h4,h5⟩:=h
 obtain ⟨b,off,rfl,hlt,hc⟩:=h5 (by omega)
 exact ⟨b,off,rfl,hlt,h4 i hi,by simpa [intCells] using hc i hi 0 (by omega)⟩
structure TN where
 leaf:Bool
 page:Int
 keys:List ByteArray
 vals:List ByteArray
 over:List Int
 kids:List Int
def dT:TN:=⟨false,0,[],[],[],[]⟩
structure TNodeIs (w:World) (A B b o:Nat) (t:TN) (ka:Option Addr) (kn kc:Nat) (va:Option Addr) (vn vc:Nat) (oa:Option Addr) (on oc:Nat) (ya:Option Addr) (yn yc:Nat):Prop where
 c0:w.cell? ⟨b,o,none⟩=some (.bool t.leaf)
 c1:w.cell? ⟨b,o+1,none⟩=some (.int .i64 t.page)
 c2:w.cell? ⟨b,o+2,none⟩=some (.slice ka kn kc)
 c3:w.cell? ⟨b,o+3,none⟩=some (.slice va vn vc)
 c4:w.cell? ⟨b,o+4,none⟩=some (.slice oa on oc)
 c5:w.cell? ⟨b,o+5,none⟩=some (.slice ya yn yc)
 page:I64 t.page
 keys:StrsAt w A B ka kn kc t.keys
 vals:StrsAt w A B va vn vc t.vals
 over:IntsAt w A B oa on oc t.over
 kids:IntsAt w A B ya yn yc t.kids
def NodesAt (w:World) (A B:Nat) (a:Option Addr) (n c:Nat) (ts:List TN):Prop :=
 ts.length=n∧n<=c∧c<=maxLen∧(0<n->∃ b off,a=some ⟨b,off,none⟩∧(A<=b∧b<B)∧∀ i,i<n->∃ ka kn kc va vn vc oa on oc ya yn yc,TNodeIs w A B b (off+i*6) (ts.getD i dT) ka kn kc va vn vc oa on oc ya yn yc)
theorem TNodeIs.keep {w w':World} {A B b o:Nat} {t:TN} {ka va oa ya:Option Addr} {kn kc vn vc on oc yn yc:Nat} (h:TNodeIs w A B b o t ka kn kc va vn vc oa on oc ya yn yc) (hlt:A<=b∧b<B) (hk:Keeps A B w w'):TNodeIs w' A B b o t ka kn kc va vn vc oa on oc ya yn yc :=
 ⟨(hk.cell hlt.1 hlt.2).trans h.c0,(hk.cell hlt.1 hlt.2).trans h.c1,(hk.cell hlt.1 hlt.2).trans h.c2,(hk.cell hlt.1 hlt.2).trans h.c3,(hk.cell hlt.1 hlt.2).trans h.c4,(hk.cell hlt.1 hlt.2).trans h.c5,h.page,h.keys.keep hk,h.vals.keep hk,h.over.keep hk,h.kids.keep hk⟩
theorem TNodeIs.up {w:World} {A B A' B' b o:Nat} {t:TN} {ka va oa ya:Option Addr} {kn kc vn vc on oc yn yc:Nat} (h:TNodeIs w A B b o t ka kn kc va vn vc oa on oc ya yn yc) (hA:A'<=A) (hB:B<=B'):TNodeIs w A' B' b o t ka kn kc va vn vc oa on oc ya yn yc :=
 ⟨h.c0,h.c1,h.c2,h.c3,h.c4,h.c5,h.page,h.keys.up hA hB,h.vals.up hA hB,h.over.up hA hB,h.kids.up hA hB⟩
theorem NodesAt.keep {w w':World} {A B:Nat} {a:Option Addr} {n c:Nat} {ts:List TN} (h:NodesAt w A B a n c ts) (hk:Keeps A B w w'):NodesAt w' A B a n c ts:=by
 obtain ⟨h1,h2,h3,h4⟩:=h
 refine ⟨h1,h2,h3,fun hn=>?_⟩
 obtain ⟨b,off,rfl,hlt,hc⟩:=h4 hn
 refine ⟨b,off,rfl,hlt,fun i hi=>?_⟩
 obtain ⟨ka,kn,kc,va,vn,vc,oa,on,oc,ya,yn,yc,h⟩:=hc i hi
 exact ⟨ka,kn,kc,va,vn,vc,oa,on,oc,ya,yn,yc,h.keep hlt hk⟩
theorem NodesAt.below {w w':World} {A B:Nat} {a:Option Addr} {n c:Nat} {ts:List TN} (h:NodesAt w A B a n c ts) (hb:Below B w w'):NodesAt w' A B a n c ts:=h.keep (.of_below hb)
theorem NodesAt.up {w:World} {A B A' B':Nat} {a:Option Addr} {n c:Nat} {ts:List TN} (h:NodesAt w A B a n c ts) (hA:A'<=A) (hB:B<=B'):NodesAt w A' B' a n c ts:=by
 obtain ⟨h1,h2,h3,h4⟩:=h
 refine ⟨h1,h2,h3,fun hn=>?_⟩
 obtain ⟨b,off,rfl,hlt,hc⟩:=h4 hn
 refine ⟨b,off,rfl,⟨by omega,by omega⟩,fun i hi=>?_⟩
 obtain ⟨ka,kn,kc,va,vn,vc,oa,on,oc,ya,yn,yc,h⟩:=hc i hi
 exact ⟨ka,kn,kc,va,vn,vc,oa,on,oc,ya,yn,yc,h.up hA hB⟩
theorem NodesAt.at {w:World} {A B:Nat} {a:Option Addr} {n c:Nat} {ts:List TN} (h:NodesAt w A B a n c ts) {i:Nat} (hi:i<n) :
  ∃ b off,a=some ⟨b,off,none⟩∧(A<=b∧b<B)∧∃ ka kn kc va vn vc oa on oc ya yn yc,TNodeIs w A B b (off+i*6) (ts.getD i dT) ka kn kc va vn vc oa on oc ya yn yc:=by
 obtain ⟨h1,h2,h3,h4⟩:=h
 obtain ⟨b,off,rfl,hlt,hc⟩:=h4 (by omega)
 exact ⟨b,off,rfl,hlt,hc i hi⟩
def wStrs:List ByteArray->Int
 | []=>0
 | s::r=>s.size+1+wStrs r
def wTN (t:TN):Int:=wStrs t.keys+wStrs t.vals+t.over.length+t.kids.length
def wTNs:List TN->Int
 | []=>0
 | t::r=>wTN t+1+wTNs r
theorem wStrs_append (xs ys:List ByteArray):wStrs (xs++ys)=wStrs xs+wStrs ys:=by
 induction xs with
 | nil=>simp [wStrs]
 | cons x r ih=>simp [wStrs,ih];omega
theorem wTNs_append (xs ys:List TN):wTNs (xs++ys)=wTNs xs+wTNs ys:=by
 induction xs with
 | nil=>simp [wTNs]
 | cons x r ih=>simp [wTNs,ih];omega
theorem wStrs_len (xs:List ByteArray):(xs.length:Int)<=wStrs xs:=by
 induction xs with
 | nil=>simp [wStrs]
 | cons x r ih=>simp [wStrs];omega
theorem wTN_nonneg (t:TN):0<=wTN t:=by
 have h1:=wStrs_len t.keys
 have h2:=wStrs_len t.vals
 unfold wTN;omega
theorem wTNs_len (xs:List TN):(xs.length:Int)<=wTNs xs:=by
 induction xs with
 | nil=>simp [wTNs]
 | cons x r ih=>have:=wTN_nonneg x;simp [wTNs];omega
theorem wTNs_get (xs:List TN) (i:Nat) (h:i<xs.length):wTN (xs.getD i dT)<=wTNs xs:=by
 induction xs generalizing i with
 | nil=>simp at h
 | cons x r ih =>
  have:=wTNs_len r
  have h9:=wTN_nonneg x
  cases i with
  | zero=>simp [wTNs];omega
  | succ i=>have:=ih i (by simpa using h);simp [wTNs] at this ⊢;omega
structure T where
 leaf:Bool
 page:Int
 keys:List ByteArray
 vals:List ByteArray
 over:List Int
 kids:List T
namespace T
theorem kid_lt {t k:T} (h:k ∈ t.kids):SizeOf.sizeOf k<SizeOf.sizeOf t:=by
 cases t
 have:=List.sizeOf_lt_of_mem h
 simp at this ⊢
 omega
theorem ind {P:T->Prop} (h:∀ t,(∀ k ∈ t.kids,P k)->P t):∀ t,P t:=by
 have:∀ n t,SizeOf.sizeOf t<n->P t:=by
  intro n
  induction n with
  | zero=>intro t ht;omega
  | succ n ih=>intro t ht;exact h t (fun k hk=>ih k (by have:=T.kid_lt hk;omega))
 exact fun t=>this _ t (Nat.lt_succ_self _)
def size (t:T):Nat:=if t.leaf then t.keys.length else t.kids.length
def nodes:T->Nat
 | ⟨_,_,_,_,_,y⟩=>1+(y.map nodes).sum
theorem nodes_eq (t:T):t.nodes=1+(t.kids.map nodes).sum:=by cases t;rw [nodes]
def low:T->ByteArray
 | ⟨l,_,k,_,_,y⟩=>if l then k.headD ByteArray.empty else match y with
  | []=>ByteArray.empty
  | t::_=>t.low
theorem low_leaf {t:T} (h:t.leaf=true):t.low=t.keys.headD ByteArray.empty:=by
 obtain ⟨l,p,k,v,o,y⟩:=t
 simp at h
 rw [low.eq_def];simp [h]
theorem low_inner {t k:T} {r:List T} (h:t.leaf=false) (hk:t.kids=k::r):t.low=k.low:=by
 obtain ⟨l,p,ks,v,o,y⟩:=t
 simp at h hk
 subst hk
 rw [low.eq_def];simp [h]
def htOf:List Int->Int
 | []=>0
 | h::r=>if h<0 then -1 else if r.all (fun x=>x == h) then h+1 else -1
def ht:T->Int
 | ⟨l,_,_,_,_,y⟩=>if l then 0 else htOf (y.map ht)
theorem ht_eq (t:T):t.ht=if t.leaf then 0 else htOf (t.kids.map ht):=by cases t;rw [ht]
def slots:T->List (ByteArray × ByteArray × Int)
 | ⟨l,_,k,v,o,y⟩=>(if l then k.zip (v.zip o) else [])++(y.map slots).flatten
theorem slots_eq (t:T):t.slots=(if t.leaf then t.keys.zip (t.vals.zip t.over) else [])++(t.kids.map slots).flatten:=by cases t;rw [slots]
def nums:T->List Int
 | ⟨_,p,_,_,o,y⟩=>(if p=0 then [] else [p])++(o.filter (fun x=>x != 0))++(y.map nums).flatten
theorem nums_eq (t:T):t.nums=(if t.page=0 then [] else [t.page])++(t.over.filter (fun x=>x != 0))++(t.kids.map nums).flatten:=by cases t;rw [nums]
end T
def startsN:Nat->List Nat->List Int
 | _,[]=>[]
 | s,n::r=>(s:Int)::startsN (s+n) r
def offs:Nat->List (Nat->List TN)->List TN
 | _,[]=>[]
 | s,g::r=>g s++offs (s+(g s).length) r
namespace T
def flat:T->Nat->List TN
 | ⟨l,p,k,v,o,y⟩,s=>if l then [⟨true,p,k,v,o,[]⟩] else ⟨false,p,y.tail.map low,[],[],startsN (s+1) (y.map nodes)⟩::offs (s+1) (y.map flat)
theorem flat_eq (t:T) (s:Nat):t.flat s=if t.leaf then [⟨true,t.page,t.keys,t.vals,t.over,[]⟩] else ⟨false,t.page,t.kids.tail.map low,[],[],startsN (s+1) (t.kids.map nodes)⟩::offs (s+1) (t.kids.map flat):=by cases t;rw [flat]
end T
def pgB (x:Int):Bool:=decide (2<=x∧x<=999)
def standB (page:Int) (v:ByteArray) (o:Int):Bool:=decide (v.size<=400) && (o == 0 || pgB o) && !(o != 0 && decide (v.size<=8)) && !(o == 0 && decide (8<v.size) && page != 0)
namespace T
def good:T->Bool->Bool
 | ⟨l,p,k,v,o,y⟩,root =>
  (decide ((if root && l then 0 else 2)<=(if l then k.length else y.length)∧(if l then k.length else y.length)<=4)) && (p == 0 || pgB p) &&
  (!l || (decide (v.length=k.length) && decide (o.length=k.length) && (v.zip o).all (fun x=>standB p x.1 x.2))) &&
  (y.map (fun t=>t.good false)).all id && y.all (fun t=>!(p != 0 && t.page == 0))
theorem good_eq (t:T) (root:Bool):t.good root=((decide ((if root && t.leaf then 0 else 2)<=t.size∧t.size<=4)) && (t.page == 0 || pgB t.page) &&
  (!t.leaf || (decide (t.vals.length=t.keys.length) && decide (t.over.length=t.keys.length) && (t.vals.zip t.over).all (fun x=>standB t.page x.1 x.2))) &&
  (t.kids.map (fun t=>t.good false)).all id && t.kids.all (fun k=>!(t.page != 0 && k.page == 0))):=by
 cases t;rw [good];simp [size]
end T
def leafT:T:=⟨true,0,[],[],[],[]⟩
def rdK (one:Nat->T × Nat × Bool):List Int->Nat->List T × Nat × Bool
 | [],nx=>([],nx,false)
 | k::ks,nx =>
  if k=nx then
   if (one nx).2.2 then ([(one nx).1],(one nx).2.1,true)
   else ((one nx).1::(rdK one ks (one nx).2.1).1,(rdK one ks (one nx).2.1).2.1,(rdK one ks (one nx).2.1).2.2)
  else ([],nx,true)
def rd (ts:List TN):Nat->Nat->T × Nat × Bool
 | 0,nx=>(leafT,nx,true)
 | f+1,nx =>
  if nx<ts.length then
   if (ts.getD nx dT).leaf then (⟨true,(ts.getD nx dT).page,(ts.getD nx dT).keys,(ts.getD nx dT).vals,(ts.getD nx dT).over,[]⟩,nx+1,false)
   else if (ts.getD nx dT).kids.length=0 then (⟨false,(ts.getD nx dT).page,[],(ts.getD nx dT).vals,(ts.getD nx dT).over,[]⟩,nx+1,true)
   else (⟨false,(ts.getD nx dT).page,[],(ts.getD nx dT).vals,(ts.getD nx dT).over,(rdK (rd ts f) (ts.getD nx dT).kids (nx+1)).1⟩,(rdK (rd ts f) (ts.getD nx dT).kids (nx+1)).2.1,(rdK (rd ts f) (ts.getD nx dT).kids (nx+1)).2.2)
  else (leafT,nx,true)
def meetB (met:Int->Bool) (x:Int):Option (Int->Bool):=if x=0 then some met else if pgB x && !met x then some (fun y=>met y || y == x) else none
def mayB (p:Int) (v:ByteArray) (o:Int):Bool:=if v.size<=8 then o == 0 else decide (v.size<=400) && (p == 0 || o != 0)
def meetL (p:Int):List (ByteArray × Int)->(Int->Bool)->Option (Int->Bool)
 | [],met=>some met
 | x::r,met=>match meetB met x.2 with
  | none=>none
  | some m=>if mayB p x.1 x.2 then meetL p r m else none
def holdB (p:Int) (acc:List T) (t:T):Bool:=decide (2<=t.size) && !(p != 0 && t.page == 0) && (match acc with | []=>true | a::_=>a.ht == t.ht)
def grK (p:Int) (keys:List ByteArray) (one:Nat->(Int->Bool)->Option (T × Nat × (Int->Bool))):List Int->List T->Nat->(Int->Bool)->Option (List T × Nat × (Int->Bool))
 | [],acc,nx,met=>some (acc,nx,met)
 | k::ks,acc,nx,met =>
  if k=nx then
   match one nx met with
   | none=>none
   | some (t,nx',m')=>if holdB p acc t && (decide (acc.length=0) || decide (t.low=keys.getD (acc.length - 1) ByteArray.empty)) then grK p keys one ks (acc++[t]) nx' m' else none
  else none
def gr (ts:List TN):Nat->Nat->(Int->Bool)->Option (T × Nat × (Int->Bool))
 | 0,_,_=>none
 | f+1,nx,met =>
  if nx=ts.length then none else
   match meetB met (ts.getD nx dT).page with
   | none=>none
   | some m =>
    if (ts.getD nx dT).leaf then
     if 4<(ts.getD nx dT).keys.length∨(ts.getD nx dT).vals.length≠(ts.getD nx dT).keys.length∨(ts.getD nx dT).over.length≠(ts.getD nx dT).keys.length∨0<(ts.getD nx dT).kids.length then none
     else match meetL (ts.getD nx dT).page ((ts.getD nx dT).vals.zip (ts.getD nx dT).over) m with
      | none=>none
      | some m'=>some (⟨true,(ts.getD nx dT).page,(ts.getD nx dT).keys,(ts.getD nx dT).vals,(ts.getD nx dT).over,[]⟩,nx+1,m')
    else
     if (ts.getD nx dT).kids.length<2∨4<(ts.getD nx dT).kids.length∨(ts.getD nx dT).keys.length+1≠(ts.getD nx dT).kids.length∨0<(ts.getD nx dT).vals.length∨0<(ts.getD nx dT).over.length then none
     else match grK (ts.getD nx dT).page (ts.getD nx dT).keys (gr ts f) (ts.getD nx dT).kids [] (nx+1) m with
      | none=>none
      | some (ys,nx',m')=>some (⟨false,(ts.getD nx dT).page,[],[],[],ys⟩,nx',m')
def lessB (a b:ByteArray):Bool:=Op.bytesLess a.toList b.toList
def ascB:List ByteArray->Bool
 | []=>true
 | [_]=>true
 | a::b::r=>lessB a b && ascB (b::r)
def kyB (s:ByteArray):Bool:=decide (1<=s.size) && decide (s.size<=8)
end Go.Proofs.YtbfggcekifaldaaGreat
