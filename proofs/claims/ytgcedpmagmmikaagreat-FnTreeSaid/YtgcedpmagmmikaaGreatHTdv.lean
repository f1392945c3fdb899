import Derived.Test.YtgcedpmagmmikaaGreatHTks
import Derived.Test.YtgcedpmagmmikaaGreatHTvr
import Derived.Test.YtgcedpmagmmikaaGreatHTxj
import Derived.Test.YtgcedpmagmmikaaGreatHTpx
import Derived.Test.YtgcedpmagmmikaaGreatHTdp
namespace Go.Proofs.YtgcedpmagmmikaaGreat
set_option maxHeartbeats 4000000
open Go.RowKit Tryz
set_option linter.unusedVariables false
set_option linter.unusedSimpArgs false
set_option maxRecDepth 100000
variable {L c l m n:Nat} {P:Nat->Prop} {Q:Nat->Nat->Prop} {a:Option Addr} {t x y:T} {ul:List Value} {w:World} {ys:List T}
theorem pS {key:ByteArray} (d:t.good true=true) (e:bv t) (f:0<=t.ht) (g:bl t.slots) (h:∃ s ∈ t.slots,s.1=key):(bq key t).nums.Sublist t.nums:=by
 have b:=Ay key t true d e f g h;unfold bq mV;split
 ·rename_i c;refine List.Sublist.trans ?_ b;generalize bQ key t=a at c ⊢;obtain⟨k,i⟩:=c;obtain⟨y,j⟩:∃ y,a.kids=[y]:=by
   match l:a.kids,i with
   | [y],_=>exact⟨y,rfl⟩
  rw[T.nums_eq a,j];simp
 ·exact b
theorem zd {key:ByteArray} (a:t.good true=true) (b:bv t) (c:0<=t.ht) (i:t.slots.all (fun s=>cy s.1)=true) (d:bl t.slots) (j:t.nums.Nodup) (e:∃ s ∈ t.slots,s.1=key) (k:(bq key t).nodes<=1000) :
  aZ ((bq key t).flat 0)∧rd ((bq key t).flat 0) (((bq key t).flat 0).length+1) 0=(bq key t,((bq key t).flat 0).length,false)∧(bq key t).slots=fI key t.slots∧bv (bq key t)∧0<=(bq key t).ht∧(bq key t).nums.Nodup:=by
 obtain⟨l,f,g,m,n,o⟩:=mW a b c d i e;have h:=(pS a b c d e).nodup j;obtain⟨p,q⟩:=oQ l f g k n (iY _ o) h;exact⟨p,q,m,f,g,h⟩
theorem vD {P1 P2:Nat->Prop} {c a:T} {h u2:Value} (i:GM w P1 c h) (j:GM w P2 a u2) (e:c.leaf=a.leaf) (n:c.leaf=true->c.vals.length=c.keys.length∧c.over.length=c.keys.length∧c.kids=[]) (o:a.leaf=true->a.vals.length=a.keys.length∧a.over.length=a.keys.length∧a.kids=[]) (C:c.size<=1000) (D:a.size<=1000) (k:∀ b,P1 b->b<w.heap.size) (l:∀ b,P2 b->b<w.heap.size) (m:∀ b,P1 b->¬ P2 b) :
  Calls prog 108 #[h,u2] w fun p q=>kD w P1 P2 c a h p q:=by
 cases d:c.leaf;·obtain⟨r,s,t,u,E,F,rfl,f⟩:=i.inner d;obtain⟨v,x,y,z,G,H,rfl,g⟩:=j.inner (e ▸ d);have A:c.size=c.kids.length:=(by simp[T.size,d]);have B:a.size=a.kids.length:=(by simp[T.size,show a.leaf=false from e ▸ d]);exact qQ f g d (by have:=f.len;omega) (by have:=g.len;omega) k l m
 ·obtain⟨r,s,t,u,rfl,f⟩:=i.leaf d;obtain⟨v,x,y,z,rfl,g⟩:=j.leaf (e ▸ d);have A:c.size=c.keys.length:=(by simp[T.size,d]);have B:a.size=a.keys.length:=(by simp[T.size,show a.leaf=true from e ▸ d]);exact tK f g d (e ▸ d) (n d) (o (e ▸ d)) (by have:=f.len;omega) (by have:=g.len;omega) k l m
theorem gC.two {w3:World} (h:gC w P t L a n c ul Q) (j:∀ b,P b->b<w.heap.size) (K:l+1<n) {P1 P2:Nat->Prop} {k1 k2:T} {u2:Value}
  (s:∀ b,P b->¬ Q l b->¬ Q (l+1) b->(Value.slice a n c).ownBlock≠some b->w3.heap[b]?=w.heap[b]?) (M:w.heap.size<=w3.heap.size) (C:w3.ownsRow 0 66 1 (.slice a n c) n (ul.set (l+1) u2))
  (D:GM w3 P1 k1 (ul.getD l .nilIface)) (E:GM w3 P2 k2 u2) (u:∀ b,P1 b->¬ P2 b) (v:∀ b,P1 b∨P2 b->(Q l b∨Q (l+1) b∨w.heap.size<=b)∧b<w3.heap.size) :
  gC w3 (fJ w w3 P) { t with kids:=(t.kids.set l k1).set (l+1) k2 } L a n c (ul.set (l+1) u2) (fun d b=>if d=l then P1 b else if d=l+1 then P2 b else Q d b):=by
 have N:ul.length=n:=by have:=h.row.1;omega
 have O:=h.len;have R:=j L h.at';have k:∀ d b,d≠l->d≠l+1->Q d b->¬ (P1 b∨P2 b):=by
  intro d b F G p H;rcases (v b H).1 with e | e | e;·exact F (h.dis d l b p e)
  ·exact G (h.dis d (l+1) b p e)
  ·have:=j b (h.sub d b p).1;omega
 have x:∀ b,P1 b∨P2 b->fJ w w3 P b∧b≠L∧(Value.slice a n c).ownBlock≠some b:=by
  intro b i;have m:=v b i;rcases m.1 with e | e | e;·exact⟨⟨.inl (h.sub l b e).1,m.2⟩,(h.sub l b e).2⟩
  ·exact⟨⟨.inl (h.sub (l+1) b e).1,m.2⟩,(h.sub (l+1) b e).2⟩
  ·exact⟨⟨.inr e,m.2⟩,by omega,fun I=>by have:=j b (h.blk b I).1;omega⟩
 refine⟨⟨.inl h.at',by omega⟩,(s L h.at' (fun e=>(h.sub l L e).2.1 rfl) (fun e=>(h.sub (l+1) L e).2.1 rfl) (fun e=>(h.blk L e).2 rfl)).trans h.box,C,fun o q=>⟨⟨.inl (h.blk o q).1,by have:=j o (h.blk o q).1;omega⟩,(h.blk o q).2⟩,by simpa using h.len,fun d r b f g=>?_,fun d b f=>?_,fun d y S f=>?_⟩
 ·skip;split at f
  ·split at g;·omega
   ·split at g;·exact absurd g (u b f)
    ·exact absurd (.inl f) (k r b (by assumption) (by assumption) g)
  ·split at f
   ·split at g;·exact absurd f (u b g)
    ·split at g;·omega
     ·exact absurd (.inr f) (k r b (by assumption) (by assumption) g)
   ·split at g;·exact absurd (.inl g) (k d b (by assumption) (by assumption) f)
    ·split at g;·exact absurd (.inr g) (k d b (by assumption) (by assumption) f)
     ·exact h.dis d r b f g
 ·skip;split at f;·exact x b (.inl f)
  ·split at f;·exact x b (.inr f)
   ·exact⟨⟨.inl (h.sub d b f).1,by have:=j b (h.sub d b f).1;omega⟩,(h.sub d b f).2⟩
 ·rcases mL f with ⟨rfl,rfl,_⟩ | ⟨z,J⟩;·have e:(ul.set (l+1) u2).getD (l+1) .nilIface=u2:=(by simp[List.getD,show l+1<ul.length by omega]);rw[e];simp only[if_neg (show ¬ (l+1=l) by omega),if_true];exact E
  ·have e:(ul.set (l+1) u2).getD d .nilIface=ul.getD d .nilIface:=(by simp only[List.getD];rw[EM (by omega)]);rw[e];rcases mL J with ⟨rfl,rfl,_⟩ | ⟨A,B⟩;·simp only[if_true];exact D
   ·simp only[if_neg A,if_neg z];exact GM.keep y (Q d) (Q d) _ (fun b i=>s b (h.sub d b i).1 (fun e=>A (h.dis d l b i e)) (fun e=>z (h.dis d (l+1) b i e)) (h.sub d b i).2.2) (fun _ i=>i) (h.kid d y (D5 B) B)
theorem gC.less {w3:World} (h:gC w P t L a (m+1) c ul Q) (o:∀ b,P b->b<w.heap.size) (N:l+1<m+1) {P1:Nat->Prop} {k1:T}
  (D:∀ b,P b->¬ Q l b->b≠L->(Value.slice a (m+1) c).ownBlock≠some b->w3.heap[b]?=w.heap[b]?) (E:w3.heap[L]?=some (.cells #[.int .i64 t.page,.slice a m c] 81)) (O:w.heap.size<=w3.heap.size) (F:w3.ownsRow 0 66 1 (.slice a m c) m (ul.take (l+1)++ul.drop (l+2)))
  (G:GM w3 P1 k1 (ul.getD l .nilIface)) (z:∀ b,P1 b->(Q l b∨Q (l+1) b∨w.heap.size<=b)∧b<w3.heap.size) :
  gC w3 (fJ w w3 P) { t with kids:=t.kids.take l++[k1]++t.kids.drop (l+2) } L a m c (ul.take (l+1)++ul.drop (l+2)) (fun d b=>if d<l then Q d b else if d=l then P1 b else Q (d+1) b):=by
 have R:ul.length=m+1:=by have:=h.row.1;omega
 have S:=h.len;have U:=o L h.at';have A:(Value.slice a m c).ownBlock=(Value.slice a (m+1) c).ownBlock:=by cases a<;>rfl
 have q:∀ d b,d≠l->d≠l+1->Q d b->¬ P1 b:=by
  intro d b p r x H;rcases (z b H).1 with f | f | f;·exact p (h.dis d l b x f)
  ·exact r (h.dis d (l+1) b x f)
  ·have:=o b (h.sub d b x).1;omega
 have I:∀ b,P1 b->fJ w w3 P b∧b≠L∧(Value.slice a (m+1) c).ownBlock≠some b:=by
  intro b j;have s:=z b j;rcases s.1 with f | f | f;·exact⟨⟨.inl (h.sub l b f).1,s.2⟩,(h.sub l b f).2⟩
  ·exact⟨⟨.inl (h.sub (l+1) b f).1,s.2⟩,(h.sub (l+1) b f).2⟩
  ·exact⟨⟨.inr f,s.2⟩,by omega,fun J=>by have:=o b (h.blk b J).1;omega⟩
 have B:∀ d b,Q d b->fJ w w3 P b∧b≠L∧(Value.slice a (m+1) c).ownBlock≠some b:=fun d b e=>⟨⟨.inl (h.sub d b e).1,by have:=o b (h.sub d b e).1;omega⟩,(h.sub d b e).2⟩;have C:∀ d k,d≠l->t.kids[d]?=some k->GM w3 (Q d) k (ul.getD d .nilIface):=fun d k K y =>GM.keep k (Q d) (Q d) _ (fun b j=>D b (h.sub d b j).1 (fun f=>K (h.dis d l b j f)) (h.sub d b j).2.1 (h.sub d b j).2.2) (fun _ j=>j) (h.kid d k (D5 y) y);refine⟨⟨.inl h.at',by omega⟩,E,F,fun u v=>?_,?_,fun d n b e g=>?_,fun d b e=>?_,fun d k y e=>?_⟩;·rw[A] at v;exact⟨⟨.inl (h.blk u v).1,by have:=o u (h.blk u v).1;omega⟩,(h.blk u v).2⟩
 ·simp only[DV,D3,Es,Eq,List.length_nil];omega
 ·skip;split at e
  ·split at g;·exact h.dis d n b e g
   ·split at g;·exact absurd g (q d b (by omega) (by omega) e)
    ·have:=h.dis d (n+1) b e g;omega
  ·split at e
   ·split at g;·exact absurd e (q n b (by omega) (by omega) g)
    ·split at g;·omega
     ·exact absurd e (q (n+1) b (by omega) (by omega) g)
   ·split at g;·have:=h.dis (d+1) n b e g;omega
    ·split at g;·exact absurd g (q (d+1) b (by omega) (by omega) e)
     ·have:=h.dis (d+1) (n+1) b e g;omega
 ·rw[A];split at e;·exact B d b e
  ·split at e;·exact I b e
   ·exact B _ b e
 ·dsimp only at e;rw[Eb] at e;by_cases p:d<l;·rw[Ec (by rw[D3];omega),EC,if_pos p] at e;have f:(ul.take (l+1)++ul.drop (l+2)).getD d .nilIface=ul.getD d .nilIface:=(by simp only[List.getD];rw[Ec (by rw[D3];omega),EC,if_pos (by omega)]);rw[f];simp only[if_pos p];exact C d k (by omega) e
  ·rw[Ea (by rw[D3];omega),D3,show min l t.kids.length=l by omega] at e;by_cases r:d=l;·subst r;simp at e;subst e;have f:(ul.take (d+1)++ul.drop (d+2)).getD d .nilIface=ul.getD d .nilIface:=(by simp only[List.getD];rw[Ec (by rw[D3];omega),EC,if_pos (by omega)]);rw[f];simp only[ES,En,if_true];exact G
   ·obtain⟨i,rfl⟩:∃ i,d=l+1+i:=⟨d - (l+1),by omega⟩;have M:l+1+i - l=i+1:=(by omega);rw[M] at e;simp only[EO,D7,List.getElem?_cons_succ,Eu] at e;have f:(ul.take (l+1)++ul.drop (l+2)).getD (l+1+i) .nilIface=ul.getD (l+2+i) .nilIface:=(by simp only[List.getD];rw[Ea (by rw[D3];omega),D3,show min (l+1) ul.length=l+1 by omega,show l+1+i - (l+1)=i by omega,Eu]);rw[f];simp only[if_neg p,if_neg r,show l+1+i+1=l+2+i by omega];exact C (l+2+i) k (by omega) e
def jq (w:World) (P:Nat->Prop) (t:T) (L:Nat) (ys:List T) (e:Ending) (w':World):Prop:=e=.returned (.tuple #[])∧(∃ (P':Nat->Prop) (a:Option Addr) (n c:Nat) (ul:List Value) (Q:Nat->Nat->Prop),gC w' P' { t with kids:=ys } L a n c ul Q∧∀ b,P' b->(P b∨w.heap.size<=b)∧b<w'.heap.size)∧Fr P w w'
theorem vE {k:Nat} (h:gC w P t L a n c ul Q) (B:∀ e,P e->e<w.heap.size) (aD:l+1<n) (bA:n<=1000) {x y:T} (ad:t.kids[l]?=some x) (ae:t.kids[l+1]?=some y) (ah:x.leaf=y.leaf) (aE:x.leaf=true->x.vals.length=x.keys.length∧x.over.length=x.keys.length∧x.kids=[]) (aF:y.leaf=true->y.vals.length=y.keys.length∧y.over.length=y.keys.length∧y.kids=[]) (aG:x.size<=400) (aH:y.size<=400) (ai:0<k∧k<x.size+y.size) :
  Calls prog 107 #[.pointer (some ⟨L,0,none⟩),.int .i64 l,.int .i64 k] w fun d j=>jq w P t L ((t.kids.set l ((ag x y).fore k)).set (l+1) ((ag x y).rest k)) d j:=by
 obtain⟨W,aj⟩:=Zn w.heap.size;have C:=hidI h;have bB:ul.length=n:=by have:=h.row.1;omega
 obtain⟨e,q,r,rfl,ak,I⟩:=gW h (show l<n by omega);obtain⟨_,J,K,a2,aI,X⟩:=gW h aD;cases a2;have al:=h.kid l x (D5 ad) ad;have an:=h.kid (l+1) y (D5 ae) ae;rw[ak] at al;rw[aI] at an;have ao:=h.box;have Y:=h.row;have a3:=h.at';have aJ:(ag x y).size=x.size+y.size:=by unfold T.size ag;rw[<-ah];cases x.leaf<;>simp
 have aK:∀ Z,Z=w.drew->Calls prog 108 #[.iface q r,.iface J K] Z fun d j=>kD Z (Q l) (Q (l+1)) x y (.iface q r) d j:=fun Z a4=>by subst a4;exact vD al.drew an.drew ah aE aF (by omega) (by omega) (fun b g=>B b (h.sub l b g).1) (fun b g=>B b (h.sub (l+1) b g).1) (fun b a5 a6=>by have:=h.dis l (l+1) b a5 a6;omega)
 have aL:=aK w.drew rfl;have aM:Hid (Calls prog 108 #[.iface q r,.iface J K] w.drew fun d p=>d=.returned (.tuple #[])∧Hid (∃ A:Nat->Prop,GM p A (ag x y) (.iface q r)∧∀ b,A b->(Q l b∨Q (l+1) b∨W<=b)∧b<p.heap.size)∧Fr (Q l) w p):=by refine aL.mono ?_;rintro d p ⟨rfl,M,a7⟩;exact⟨rfl,by rw[<-aj];exact M,(Fr.of_below ((D2 _ w).drew)).trans a7⟩
 have bC:L<W:=by have:=B L a3;omega
 have bD:e<W:=by have:=B e (h.blk e rfl).1;omega
 have aN:¬ Q l L:=fun d=>(h.sub l L d).2.1 rfl;have ap:¬ Q l e:=fun d=>(h.sub l e d).2.2 rfl;obtain⟨bE,aq⟩:=Zn t.page;rw[aq] at ao;obtain⟨a8,ar⟩:=au ao;have av:L<w.heap.size:=by omega
 have aw:e<w.heap.size:=by omega
 have ax:n<=c∧c<=maxLen:=by
  rcases Y.2 with ⟨d,aa⟩ | ⟨aO,bF,bG,d,_,_,a9,a',_⟩;·cases d
  ·simp only[Value.slice.injEq] at d;obtain⟨_,_,rfl⟩:=d;exact⟨a9,a'⟩
 have bH:=ax.1;have ba:=ax.2;unfold maxLen at ba;have bI:IntKind.i64.wrap ((l:Int)+1)=(l:Int)+1:=by rw[EB];omega
 have aP:=hidI aJ;have ay:Hid (0<k∧k<x.size+y.size∧x.size<=400∧y.size<=400):=⟨ai.1,ai.2,aG,aH⟩;have bJ:=hidI aq;have bb:=hidI ak;clear h ad ae ah aE aF aG aH ai aK aL al an ak aI ax aJ aq;go_enter func107,ntmps107;go_upto_region 0 with fail
 refine Zg (fun j:World=>j.cell? ⟨L,1,none⟩=some (.slice (some ⟨e,0,none⟩) n c)∧j.cell? ⟨e,l,none⟩=some (.iface q r)∧j.cell? ⟨e,l+1,none⟩=some (.iface J K)∧L<j.heap.size∧e<j.heap.size) (⟨ar,I,X,av,aw⟩) (fun D=>?_);refine Zx .a0 ?_;refine Zx .a1 ?_;refine Zx .a2 ?_;refine Zy .a3 (fun s f=>by (try dsimp only at f);obtain⟨E,F,az,G,H⟩:=f;go_simp;rfl) ?_;try simp only[Zq]
 refine Zx .a4 ?_;refine Zw (.pointer (some ⟨e,l,none⟩)) .a5 ?_ ?_;·intro s f;go_simp;intro aA;omega
 refine Zy .a6 (fun s f=>by (try dsimp only at f);obtain⟨E,F,az,G,H⟩:=f;go_simp;rfl) ?_;refine Zx .a7 ?_;try simp only[Zq]
 refine Zx .a8 ?_;refine Zx .a9 ?_;refine Zy (.t .a0) (fun s f=>by (try dsimp only at f);obtain⟨E,F,az,G,H⟩:=f;go_simp;rfl) ?_;refine Zx (.t .a1) ?_;try simp only[Zq]
 refine Zx (.t .a2) ?_;refine Zw (.pointer (some ⟨e,l+1,none⟩)) (.t .a3) ?_ ?_;·intro s f;go_simp;intro aA;omega
 refine Zy (.t .a4) (fun s f=>by (try dsimp only at f);obtain⟨E,F,az,G,H⟩:=f;go_simp;rfl) ?_;try simp only[Zq]
 refine Zr [15] ?_;refine rdA (.t .a5) (fun N v=>?_) DR;go_simp;refine aM.out.mono ?_;rintro d p ⟨rfl,aQ,u⟩;have bK:=u.size;have aR:=u.block L av aN;have aB:=u.block e aw ap;go_wp2_with fail
 refine v.out _ _ (⟨(DZ (w:=w) (a:=⟨L,1,none⟩) aR).trans ar,(DZ (w:=w) (a:=⟨e,l,none⟩) aB).trans I,(DZ (w:=w) (a:=⟨e,l+1,none⟩) aB).trans X,by omega,by omega⟩) (fun D=>?_);clear v N;try simp only[Zq]
 clear D aR aB;refine Zd ?_;have aC:=(u.block L av aN).trans ao;have pY:=am Y u (fun aO M d=>by cases M;exact ap d);obtain⟨A,aS,O⟩:=aQ.out;have R:∀ b,A b->(P b∨W<=b)∧b≠L∧b≠e:=fun b g=>by
  rcases (O b g).1 with d | d | d;·have:=C.out.sub l b d;exact⟨.inl this.1,this.2.1,fun aa=>this.2.2 (by rw[aa];rfl)⟩
  ·have:=C.out.sub (l+1) b d;exact⟨.inl this.1,this.2.1,fun aa=>this.2.2 (by rw[aa];rfl)⟩
  ·exact⟨.inr d,by omega,by omega⟩
 have aT:=pB aS.drew k ay.out.1 (by rw[aP.out];exact ay.out.2.1) (by rw[aP.out];have:=ay.out;omega) (fun b g=>(O b g).2);have bc:Hid (Calls prog 33 #[.iface q r,.int .i64 k] p.drew fun d i=>∃ m o,d=.returned (.iface m o)∧(i.cell? ⟨e,l+1,none⟩=some (.iface J K)∧i.frozen? ⟨e,l+1,none⟩=false∧e<i.heap.size∧L<i.heap.size)∧jq w P t L ((t.kids.set l ((ag x y).fore k)).set (l+1) ((ag x y).rest k)) (.returned (.tuple #[])) (i.setCell ⟨e,l+1,none⟩ (.iface m o))∧(i.cell? ⟨L,1,none⟩=some (.slice (some ⟨e,0,none⟩) n c)∧i.cell? ⟨e,l,none⟩=some (.iface q r)∧L<i.heap.size∧e<i.heap.size)∧((i.setCell ⟨e,l+1,none⟩ (.iface m o)).cell? ⟨L,1,none⟩=some (.slice (some ⟨e,0,none⟩) n c)∧(i.setCell ⟨e,l+1,none⟩ (.iface m o)).cell? ⟨e,l,none⟩=some (.iface q r)∧L<(i.setCell ⟨e,l+1,none⟩ (.iface m o)).heap.size∧e<(i.setCell ⟨e,l+1,none⟩ (.iface m o)).heap.size)):=by
  refine aT.mono ?_;rintro d i ⟨bL,rfl,⟨S,U,q1,q2,bd,be⟩,bf⟩;obtain⟨m,o,rfl⟩:=q2.shape;have V:=(Fr.of_below ((D2 _ p).drew)).trans bf;have bM:=V.size;have ab:=am pY V (fun aO M d=>by cases M;exact (R e d).2.2 rfl);have bg:=ab.cellAt (l+1) (by omega);have aU:e<i.heap.size:=(by omega);have bh:ul[l+1]?=some (.iface J K):=(by have:=Y.cellAt (l+1) (by omega);rw[<-this];exact X);have z:=af i e (l+1) (.iface m o);have aV:=(ab.stored (l+1) (.iface m o)).1;have ac:∀ b,S b∨U b->(A b∨p.heap.size<=b)∧b<i.heap.size:=be;have aW:∀ b,S b∨U b->b≠e:=fun b g=>by
   rcases (ac b g).1 with d | d;·exact (R b d).2.2
   ·omega
  have bi:=C.out.two (w3:=i.setCell ⟨e,l+1,none⟩ (.iface m o)) B aD (P1:=S) (P2:=U) (k1:=(ag x y).fore k) (k2:=(ag x y).rest k) (u2:=.iface m o) (fun b g aX bj bk=>by
   have bl:=B b g;have bm:b≠e:=fun d=>bk (by rw[d];rfl);have bn:¬ A b:=fun d=>by
    rcases (O b d).1 with d | d | d;·exact aX d
    ·exact bj d
    ·omega
   exact ((z.block b (by omega) bm).trans (V.block b (by omega) bn)).trans (u.block b bl aX)) (by have:=z.size;omega) aV
   (by rw[bb.out];exact GM.keep _ S S _ (fun b g=>z.block b (ac b (.inl g)).2 (aW b (.inl g))) (fun _ h=>h) q1)
   (GM.keep _ U U _ (fun b g=>z.block b (ac b (.inr g)).2 (aW b (.inr g))) (fun _ h=>h) q2) bd (fun b g=>by
    have bo:=ac b g;refine⟨?_,by have:=z.size;omega⟩;rcases bo.1 with d | d;·have:=(O b d).1;rw[<-aj] at this;exact this
    ·exact .inr (.inr (by omega)))
  have aY:=(V.block L (by omega) (fun d=>(R L d).2.1 rfl)).trans aC;have bp:=(z.block L (by omega) (fun d=>(C.out.blk e rfl).2 d.symm)).trans aY;have bN:=z.size;have aZ:ul[l]?=some (.iface q r):=(by have:=Y.cellAt l (by omega);rw[<-this];exact I);refine⟨m,o,rfl,⟨by rw[bg];exact bh,ab.frozenAt _,aU,by omega⟩,?_,⟨(au aY).2,by rw[ab.cellAt l (by omega)];exact aZ,by omega,aU⟩,⟨(au bp).2,by rw[aV.cellAt l (by omega),EM (by omega)];exact aZ,by omega,by omega⟩⟩;refine⟨rfl,⟨_,_,_,_,_,_,bi,fun b g=>⟨g.1,g.2⟩⟩,?_⟩;refine eV ?_;have bq:Fr (fun b=>P b∨w.heap.size<=b) w p:=u.weak (fun b d=>.inl (C.out.sub l b d).1);have br:Fr (fun b=>P b∨w.heap.size<=b) p i:=V.weak (fun b d=>by rw[aj];exact (R b d).1);exact (bq.trans br).trans (z.weak (fun b d=>by rw[d];exact .inl (C.out.blk e rfl).1))
 have bs:=(DZ (w:=w) (a:=⟨e,l,none⟩) (u.block e aw ap)).trans I;obtain⟨bO,bt⟩:=au aC;have bu:L<p.heap.size:=by omega
 have bv:e<p.heap.size:=by omega
 clear aT aS O R A aQ aC pY a8 ar I X u aM;go_upto_region 1 with fail
 refine Zg (fun j:World=>j.cell? ⟨L,1,none⟩=some (.slice (some ⟨e,0,none⟩) n c)∧j.cell? ⟨e,l,none⟩=some (.iface q r)∧L<j.heap.size∧e<j.heap.size) (⟨bt,bs,bu,bv⟩) (fun D=>?_);refine Zx .a0 ?_;refine Zx .a1 ?_;refine Zx .a2 ?_;refine Zy .a3 (fun s f=>by (try dsimp only at f);obtain⟨E,F,G,H⟩:=f;go_simp;rfl) ?_;try simp only[Zq]
 refine Zx .a4 ?_;refine Zx .a5 ?_;refine Zx .a6 ?_;refine Zx .a7 ?_;try simp only[Zq]
 refine Zx .a8 ?_;refine Zy .a9 (fun s f=>by (try dsimp only at f);obtain⟨E,F,G,H⟩:=f;go_simp;rfl) ?_;refine Zx (.t .a0) ?_;refine Zw (.pointer (some ⟨e,l,none⟩)) (.t .a1) ?_ ?_;·intro s f;go_simp;intro aA;omega
 try simp only[Zq]
 refine Zy (.t .a2) (fun s f=>by (try dsimp only at f);obtain⟨E,F,G,H⟩:=f;go_simp;rfl) ?_;refine Zx (.t .a3) ?_;try simp only[Zq]
 refine Zr [14] ?_;refine rdA (.t .a4) (fun N v=>?_) DR;go_simp;refine bc.out.mono ?_;rintro d i ⟨m,o,rfl,⟨bP,bQ,bR,bS⟩,a0,bw,a1⟩;have bx:=hidI a0;have bz:Hid _:=a1;clear a0 a1;go_wp2_with fail
 refine v.out _ _ (bw) (fun D=>?_);clear v N;refine Zw (.pointer (some ⟨e,l+1,none⟩)) (.t .a5) ?_ ?_;·intro s f;go_simp;intro aA;omega
 try simp only[Zq]
 refine Zr [16] ?_;refine rdA (.t .a6) (fun N v=>?_) DR;go_simp;refine v.out _ _ (bz.out) (fun D=>?_);clear v N;try simp only[Zq]
 refine Zd ?_;clear D;go_wp2_with fail
 go_end0
 exact bx.out
def eQ (x:T):Prop:=(x.leaf=true->x.vals.length=x.keys.length∧x.over.length=x.keys.length∧x.kids=[])∧(x.leaf=false->x.keys=[]∧x.vals=[]∧x.over=[])
theorem AC (d:eQ x) (e:eQ y) (f:x.leaf=y.leaf) {k:Nat} (h:k<=x.size):(ag x y).fore k=x.fore k∧(ag x y).rest k=ag (x.rest k) y:=by
 unfold T.size at h;unfold ag T.fore T.rest;cases a:x.leaf;·obtain⟨g,j,b⟩:=d.2 a;obtain⟨l,m,c⟩:=e.2 (by rw[<-f,a]);rw[a] at h;simp only[Bool.false_eq_true,if_false] at h;simp[g,j,b,l,m,c,List.take_append_of_le_length h,List.drop_append_of_le_length h,a]
 ·obtain⟨g,j,b⟩:=d.1 a;obtain⟨l,m,c⟩:=e.1 (by rw[<-f,a]);rw[a] at h;simp only[if_true] at h;simp[b,c,List.take_append_of_le_length h,List.drop_append_of_le_length h,List.take_append_of_le_length (l₁:=x.vals) (i:=k) (by omega),List.drop_append_of_le_length (l₁:=x.vals) (i:=k) (by omega),List.take_append_of_le_length (l₁:=x.over) (i:=k) (by omega),List.drop_append_of_le_length (l₁:=x.over) (i:=k) (by omega),a]
theorem mX {c:Type} (a b:List c) (k n:Nat) (h:a.length=n):(a++b).take (n+k)=a++b.take k∧(a++b).drop (n+k)=b.drop k:=by
 subst h;exact⟨List.take_length_add_append ..,List.drop_length_add_append ..⟩
theorem ze (g:eQ x) (h:eQ y) (b:x.leaf=y.leaf) (k:Nat):(ag x y).fore (x.size+k)=ag x (y.fore k)∧(ag x y).rest (x.size+k)=y.rest k:=by
 unfold T.size ag T.fore T.rest;cases a:x.leaf;·obtain⟨c,d,e⟩:=g.2 a;obtain⟨i,j,f⟩:=h.2 (by rw[<-b,a]);have:=mX x.kids y.kids k _ rfl;simp[c,d,e,i,j,f,this.1,this.2,<-b,a]
 ·obtain⟨c,d,e⟩:=g.1 a;obtain⟨i,j,f⟩:=h.1 (by rw[<-b,a]);have l:=mX x.keys y.keys k _ rfl;have m:=mX x.vals y.vals k _ c;have n:=mX x.over y.over k _ d;simp[e,f,l.1,l.2,m.1,m.2,n.1,n.2,<-b,a]
theorem oS {A B:T} (h:l+1<ys.length):(ys.set l A).set (l+1) B=ys.take l++[A,B]++ys.drop (l+2):=by
 rw[mM (by rw[Em];exact h)];have a:(ys.set l A).take (l+1)=ys.take l++[A]:=by rw[mM (by omega),El (by simp;omega),D6 (by simp;omega)]
 have b:(ys.set l A).drop (l+1+1)=ys.drop (l+2):=by rw[List.drop_set_of_lt (by omega)]
 rw[a,b];simp
theorem zg (c:ys[l]?=some x) (a:ys[l+1]?=some y) (d:eQ x) (e:eQ y) (f:x.leaf=y.leaf):(ys.set l ((ag x y).fore (x.size - 1))).set (l+1) ((ag x y).rest (x.size - 1))=eh ys l i4:=by
 rw[oS (Zc a)];unfold eh i4;have b:=AC d e f (k:=x.size - 1) (by omega);simp only[List.getD,c,a,ET,b.1,b.2]
theorem xf (c:ys[l]?=some x) (a:ys[l+1]?=some y) (d:eQ x) (e:eQ y) (f:x.leaf=y.leaf):(ys.set l ((ag x y).fore (x.size+1))).set (l+1) ((ag x y).rest (x.size+1))=eh ys l jy:=by
 rw[oS (Zc a)];unfold eh jy;have b:=ze d e f 1;simp only[List.getD,c,a,ET,b.1,b.2]
theorem pW (h:gC w P t L a n c ul Q) {x:T} (f:t.kids[m]?=some x):∃ e b d,a=some ⟨e,0,none⟩∧ul.getD m .nilIface=.iface b d∧w.cell? ⟨e,m,none⟩=some (.iface b d)∧xF w b d "loop.example/s02098/impl.size" (.int .i64 x.size):=by
 obtain⟨e,b,d,j,g,k⟩:=gW h (show m<n by have:=Zc f;have:=h.len;omega);have i:=h.kid m x (D5 f) f;rw[g] at i;exact⟨e,b,d,j,g,k,i.size⟩
theorem yf (h:gC w P t L a n c ul Q):n<=c∧c<=maxLen:=by
 rcases h.row.2 with ⟨b,f⟩ | ⟨g,i,j,b,_,_,d,e,_⟩;·simp only[Value.slice.injEq] at b;exact⟨by omega,by omega⟩
 ·simp only[Value.slice.injEq] at b;obtain⟨_,_,rfl⟩:=b;exact⟨d,e⟩
theorem xg (h:gC w P t L a n c ul Q) (r:∀ b,P b->b<w.heap.size) (V:l+1<n) (W:n<=1000) {x y:T} (D:t.kids[l]?=some x) (E:t.kids[l+1]?=some y) (X:x.leaf=y.leaf) (Y:eQ x) (Z:eQ y) (aa:x.size<=400) (ab:y.size<=400) {g:World}
  (k:Fr (Q l) w g) (F:∃ i:Nat->Prop,GM g i (ag x y) (ul.getD l .nilIface)∧∀ d,i d->(Q l d∨Q (l+1) d∨w.heap.size<=d)∧d<g.heap.size) :
  g.heap[L]?=some (.cells #[.int .i64 t.page,.slice a n c] 81)∧Calls prog 109 #[.slice a n c,.int .i64 ((l:Int)+1),.int .i64 ((l:Int)+2)] g fun e j=>e=.returned (.slice a (n - 1) c)∧j.heap[L]?=some (.cells #[.int .i64 t.page,.slice a n c] 81)∧jq w P t L (eh t.kids l (fun x y=>[ag x y])) (.returned (.tuple #[])) (j.setCell ⟨L,1,none⟩ (.slice a (n - 1) c)):=by
 obtain⟨m,rfl⟩:∃ m,n=m+1:=⟨n - 1,by omega⟩;obtain⟨i,G,o⟩:=F;have ac:=k.size;have H:=r L h.at';have z:=(k.block L H (fun e=>(h.sub l L e).2.1 rfl)).trans h.box;have pY:=am h.row k (fun u s e=>(h.sub l u e).2.2 s);have A:=pU (l+1) m c a ul g pY (by omega) (by omega) h.one;have v:((l+1:Nat):Int)+1=(l:Int)+2:=by omega
 rw[v,show ((l+1:Nat):Int)=(l:Int)+1 by omega] at A;refine⟨z,A.mono ?_⟩;rintro e j ⟨rfl,I,p⟩;have ad:=p.size;have B:=(p.block L (by omega) (fun e=>(h.blk L e).2 rfl)).trans z;have q:=af j L 1 (.slice a m c);have ae:=q.size;have J:(Value.slice a m c).ownBlock=(Value.slice a (m+1) c).ownBlock:=by cases a<;>rfl
 have C:∀ d,i d->(P d∨w.heap.size<=d)∧d≠L∧(Value.slice a (m+1) c).ownBlock≠some d:=fun d f=>by
  rcases (o d f).1 with e | e | e;·have:=h.sub l d e;exact⟨.inl this.1,this.2⟩
  ·have:=h.sub (l+1) d e;exact⟨.inl this.1,this.2⟩
  ·exact⟨.inr e,by omega,fun v=>by have:=r d (h.blk d v).1;omega⟩
 have K:=h.less (w3:=j.setCell ⟨L,1,none⟩ (.slice a m c)) r (by omega) (P1:=i) (k1:=ag x y) (fun d f M N O=>by
  have R:=r d f;exact ((q.block d (by omega) N).trans (p.block d (by omega) O)).trans (k.block d R M)) (by simpa using aj B 1 (.slice a m c)) (by omega)
  (am I q (fun u s e=>by rw[J] at s;exact (h.blk u s).2 e))
  (GM.keep _ i i _ (fun d f=>(q.block d (by have:=(o d f).2;omega) (C d f).2.1).trans (p.block d (o d f).2 (C d f).2.2)) (fun _ h=>h) G) (fun d f=>⟨(o d f).1,by have:=(o d f).2;omega⟩)
 refine⟨rfl,B,rfl,⟨_,_,_,_,_,_,K.re (t':={ t with kids:=eh t.kids l (fun x y=>[ag x y]) }) rfl ?_,fun d f=>⟨f.1,f.2⟩⟩,eV ?_⟩;·unfold eh;simp only[List.getD,D,E,ET]
 ·have S:Fr (fun d=>P d∨w.heap.size<=d) w g:=k.weak (fun d e=>.inl (h.sub l d e).1);have U:Fr (fun d=>P d∨w.heap.size<=d) g j:=p.weak (fun d e=>.inl (h.blk d e).1);exact (S.trans U).trans (q.weak (fun d e=>by rw[e];exact .inl h.at'))
theorem AD (h:gC w P t L a n c ul Q) (K:∀ b,P b->b<w.heap.size) (bo:2<=n∧n<=4) {d:T} {ht:Int} (ac:0<=ht) (s:t.kids[m]?=some d) (i:wj d ht) (F:∀ (g:Nat) z,g≠m->t.kids[g]?=some z->ng z ht) :
  Calls prog 104 #[.pointer (some ⟨L,0,none⟩),.int .i64 m] w fun e o=>jq w P t L (dW t.kids m) e o:=by
 have aj:=h.len;have bp:m<n:=by have:=Zc s;omega
 have aF:d.size=1:=by have:=i.soft.size;omega
 have U:=yf h;have bq:=U.1;have a3:=U.2;unfold maxLen at a3;have V:=h.box;obtain⟨ak,W⟩:=Zn t.page;rw[W] at V;obtain⟨bs,al⟩:=au V;have aG:=K L h.at';have D:=oy h (by omega) ((m:Int) - 1) (by omega);have E:=oy h (by omega) ((m:Int)+1) (by omega);by_cases q1:0<m∧2<(t.kids.getD (m - 1) br).size
 ·obtain⟨g,rfl⟩:∃ g,m=g+1:=⟨m - 1,by omega⟩;obtain⟨x,p⟩:∃ x,t.kids[g]?=some x:=⟨_,DQ (by omega)⟩;have am:t.kids.getD g br=x:=(by simp[List.getD,p]);have aH:2<x.size:=(by rw[<-am];simpa using q1.2);have r:=F g x (by omega) p;have M:ig t.kids (((g+1:Nat):Int) - 1)=true:=(by unfold ig;rw[show ((((g+1:Nat):Int) - 1).toNat)=g by omega,am];exact decide_eq_true ⟨by omega,by omega,aH⟩);rw[M,show ((g+1:Nat):Int) - 1=(g:Int) by omega] at D;obtain⟨C,aI⟩:∃ C,x.size=C+1:=⟨x.size - 1,by omega⟩;have u:=jx ac r.neat i.neat r.ht i.ht;have G:=vE h K (l:=g) (k:=C) (by omega) (by omega) p s u r.lens.1 i.lens.1 (by have:=r.size;omega) (by omega) ⟨by omega,by omega⟩;have X:(t.kids.set g ((ag x d).fore C)).set (g+1) ((ag x d).rest C)=dW t.kids (g+1):=(by have:=zg p s r.lens i.lens u;rw[show x.size - 1=C by omega] at this;rw[this];unfold dW;rw[if_pos q1];rfl);rw[X] at G;obtain⟨b,a4,a5,rfl,an,ao,a6,a7,a8,a9,a',Y⟩:=pW h p;rw[aI] at Y;have N:=aO ao;have bt:C<=4:=(by have:=r.size;omega);have ap:=hidI G;clear G X q1 p am aH r M aI u E s i F h an U W V aj;have bu:((C+1:Nat):Int) - 1=(C:Int):=(by omega);have bv:((g+1:Nat):Int) - 1=(g:Int):=(by omega);go_enter func104,ntmps104;go_wp2_with fail
  refine D.mono ?_;rintro e j ⟨rfl,rfl⟩;go_wp2_with fail
  refine Y.mono ?_;rintro e O ⟨rfl,rfl⟩;go_wp2_with fail
  refine ap.out.mono ?_;intro e ba A;have aq:=A.1;subst aq;have Z:=hidI A;clear A;go_wp2_with fail
  go_end0
  exact Z.out
 ·have M:ig t.kids ((m:Int) - 1)=false:=by
   unfold ig;refine decide_eq_false (fun e=>q1 ⟨by omega,?_⟩);have:=e.2.2
   rwa [show ((m:Int) - 1).toNat=m - 1 by omega] at this
  rw[M] at D;by_cases q2:m+1<t.kids.length∧2<(t.kids.getD (m+1) br).size
  ·obtain⟨y,q⟩:∃ y,t.kids[m+1]?=some y:=⟨_,DQ q2.1⟩;have av:t.kids.getD (m+1) br=y:=(by simp[List.getD,q]);have aJ:2<y.size:=(by rw[<-av];exact q2.2);have v:=F (m+1) y (by omega) q;have aa:ig t.kids ((m:Int)+1)=true:=(by unfold ig;rw[show ((m:Int)+1).toNat=m+1 by omega,av];exact decide_eq_true ⟨by omega,by omega,aJ⟩);rw[aa] at E;have u:=jx ac i.neat v.neat i.ht v.ht;have G:=vE h K (l:=m) (k:=2) (by omega) (by omega) s q u i.lens.1 v.lens.1 (by omega) (by have:=v.size;omega) ⟨by omega,by omega⟩;have X:(t.kids.set m ((ag d y).fore 2)).set (m+1) ((ag d y).rest 2)=dW t.kids m:=(by have:=xf s q i.lens v.lens u;rw[aF] at this;rw[this];unfold dW;rw[if_neg q1,if_pos q2]);rw[X] at G;obtain⟨b,a4,a5,rfl,an,ao,a6,a7,a8,a9,a',Y⟩:=pW h s;rw[aF] at Y;have N:=aO ao;have ap:Hid (Calls prog 107 #[.pointer (some ⟨L,0,none⟩),.int .i64 m,.int .i64 2] w fun e o=>jq w P t L (dW t.kids m) e o):=G;clear G X q1 q2 q av aJ v M aa u s i F h an U W V aj;go_enter func104,ntmps104;go_wp2_with fail
   refine D.mono ?_;rintro e j ⟨rfl,rfl⟩;go_wp2_with fail
   refine E.mono ?_;rintro e O ⟨rfl,rfl⟩;go_wp2_with fail
   refine Y.mono ?_;rintro e ba ⟨rfl,rfl⟩;go_wp2_with fail
   refine ap.out.mono ?_;intro e bw A;have aq:=A.1;subst aq;have Z:=hidI A;clear A;go_wp2_with fail
   go_end0
   exact Z.out
  ·have aa:ig t.kids ((m:Int)+1)=false:=by
    unfold ig;refine decide_eq_false (fun e=>q2 ⟨by omega,?_⟩);have:=e.2.2
    rwa [show ((m:Int)+1).toNat=m+1 by omega] at this
   rw[aa] at E;obtain⟨l,aK⟩:=Zn (m - 1);have aL:l+1<n:=(by omega);obtain⟨x,p⟩:∃ x,t.kids[l]?=some x:=⟨_,DQ (by omega)⟩;obtain⟨y,q⟩:∃ y,t.kids[l+1]?=some y:=⟨_,DQ (by omega)⟩;have bb:x.leaf=y.leaf∧eQ x∧eQ y∧x.size<=400∧y.size<=400:=by
    rcases EQ m with bc | bc;·obtain rfl:l=m:=(by omega);rw[s] at p;cases p;have v:=F (l+1) y (by omega) q;exact⟨jx ac i.neat v.neat i.ht v.ht,i.lens,v.lens,by omega,by have:=v.size;omega⟩
    ·obtain rfl:m=l+1:=(by omega);rw[s] at q;cases q;have r:=F l x (by omega) p;exact⟨jx ac r.neat i.neat r.ht i.ht,r.lens,i.lens,by have:=r.size;omega,by omega⟩
   obtain⟨u,aw,ax,aM,aN⟩:=bb;have aP:dW t.kids m=eh t.kids l (fun x y=>[ag x y]):=(by unfold dW;rw[if_neg q1,if_neg q2,aK]);rw[aP];obtain⟨b,ad,ae,rfl,ay,ab⟩:=gW h (show l<n by omega);obtain⟨_,af,ah,bd,aQ,ai⟩:=gW h aL;cases bd;have az:=h.kid l x (D5 p) p;have aA:=h.kid (l+1) y (D5 q) q;rw[ay] at az;rw[aQ] at aA;have aR:=vD az.drew aA.drew u aw.1 ax.1 (by omega) (by omega) (fun z aB=>K z (h.sub l z aB).1) (fun z aB=>K z (h.sub (l+1) z aB).1) (fun z be bf=>by have:=h.dis l (l+1) z be bf;omega);have aS:Hid (Calls prog 108 #[.iface ad ae,.iface af ah] w.drew fun e j=>e=.returned (.tuple #[])∧j.heap[L]?=some (.cells #[.int .i64 ak,.slice (some ⟨b,0,none⟩) n c] 81)∧(j.cell? ⟨b,l,none⟩=some (.iface ad ae)∧j.cell? ⟨b,l+1,none⟩=some (.iface af ah)∧b<j.heap.size)∧Hid (Calls prog 109 #[.slice (some ⟨b,0,none⟩) n c,.int .i64 ((l:Int)+1),.int .i64 ((l:Int)+2)] j fun e O=>e=.returned (.slice (some ⟨b,0,none⟩) (n - 1) c)∧O.heap[L]?=some (.cells #[.int .i64 ak,.slice (some ⟨b,0,none⟩) n c] 81)∧jq w P t L (eh t.kids l (fun x y=>[ag x y])) (.returned (.tuple #[])) (O.setCell ⟨L,1,none⟩ (.slice (some ⟨b,0,none⟩) (n - 1) c)))):=(by refine aR.mono ?_;rintro e j ⟨rfl,bg,aC⟩;have:=xg h K aL (by omega) p q u aw ax aM aN ((Fr.of_below ((D2 _ w).drew)).trans aC) (by rw[ay];exact bg);rw[W] at this;have N:=aO ab;have aT:=aC.block b N (fun e=>(h.sub l b e).2.2 rfl);have bx:w.heap.size<=j.heap.size:=aC.size;exact⟨rfl,this.1,⟨(DZ (w:=w) (a:=⟨b,l,none⟩) aT).trans ab,(DZ (w:=w) (a:=⟨b,l+1,none⟩) aT).trans ai,by omega⟩,this.2⟩);have N:=aO ab;have bz:=al;have bh:m=l+1∨(m=0∧l=0):=(by omega);have aU:Hid (∀ j:World,j.heap[L]?=some (.cells #[.int .i64 ak,.slice (some ⟨b,0,none⟩) n c] 81)->j.cell? ⟨L,1,none⟩=some (.slice (some ⟨b,0,none⟩) n c)∧j.frozen? ⟨L,1,none⟩=false∧L<j.heap.size):=fun j aD=>⟨(au aD).2,ar aD 1,(Za aD)⟩;clear aR az aA ay aQ p q u aw ax aM aN aP q1 q2 M aa s i F h U W V aj aK;have bA:IntKind.i64.wrap ((l:Int)+1)=(l:Int)+1:=(by rw[EB];omega);have bB:IntKind.i64.wrap ((l:Int)+2)=(l:Int)+2:=(by rw[EB];omega);have bC:max (l:Int) 0=(l:Int):=(by omega);rcases bh with rfl | ⟨rfl,rfl⟩
   focus
     rw[show ((l+1:Nat):Int) - 1=(l:Int) by omega] at D;rw[show ((l+1:Nat):Int)+1=(l:Int)+1+1 by omega] at E;go_enter func104,ntmps104;(go_wp2_with fail);refine D.mono ?_;rintro e j ⟨rfl,rfl⟩;(go_wp2_with fail);refine E.mono ?_;rintro e O ⟨rfl,rfl⟩;(go_upto_region 1 with fail);refine Zg (fun o:World=>o.cell? ⟨L,1,none⟩=some (.slice (some ⟨b,0,none⟩) n c)∧o.cell? ⟨b,l,none⟩=some (.iface ad ae)∧o.cell? ⟨b,l+1,none⟩=some (.iface af ah)∧L<o.heap.size∧b<o.heap.size) (⟨al,ab,ai,aG,N⟩) (fun aE=>?_);refine Zx .a0 ?_;refine Zx .a1 ?_;refine Zx .a2 ?_;refine Zy .a3 (fun B f=>by (try dsimp only at f);obtain⟨H,I,J,R,S⟩:=f;go_simp;rfl) ?_;(try simp only[Zq]);refine Zx .a4 ?_;refine Zw (.pointer (some ⟨b,l,none⟩)) .a5 ?_ ?_;·intro B f;go_simp;intro aV;omega
     refine Zy .a6 (fun B f=>by (try dsimp only at f);obtain⟨H,I,J,R,S⟩:=f;go_simp;rfl) ?_;refine Zx .a7 ?_;(try simp only[Zq]);refine Zx .a8 ?_;refine Zx .a9 ?_;refine Zy (.t .a0) (fun B f=>by (try dsimp only at f);obtain⟨H,I,J,R,S⟩:=f;go_simp;rfl) ?_;refine Zx (.t .a1) ?_;(try simp only[Zq]);refine Zx (.t .a2) ?_;refine Zw (.pointer (some ⟨b,l+1,none⟩)) (.t .a3) ?_ ?_;·intro B f;go_simp;intro aV;omega
   rotate_left
   focus
     rw[show ((0:Nat):Int) - 1=-1 by omega] at D;rw[show ((0:Nat):Int)+1=1 by omega] at E;rw[show ((0:Nat):Int)+1=1 by omega,show ((0:Nat):Int)+2=2 by omega,Ed] at aS;rw[Ed] at ai;have bD:max (-1:Int) 0=0:=(by decide);go_enter func104,ntmps104;(go_wp2_with fail);refine D.mono ?_;rintro e j ⟨rfl,rfl⟩;(go_wp2_with fail);refine E.mono ?_;rintro e O ⟨rfl,rfl⟩;(go_upto_region 1 with fail);refine Zg (fun o:World=>o.cell? ⟨L,1,none⟩=some (.slice (some ⟨b,0,none⟩) n c)∧o.cell? ⟨b,0,none⟩=some (.iface ad ae)∧o.cell? ⟨b,1,none⟩=some (.iface af ah)∧L<o.heap.size∧b<o.heap.size) (⟨al,ab,ai,aG,N⟩) (fun aE=>?_);refine Zx .a0 ?_;refine Zx .a1 ?_;refine Zx .a2 ?_;(try simp only[Zq]);refine Zy .a3 (fun B f=>by (try dsimp only at f);obtain⟨H,I,J,R,S⟩:=f;go_simp;rfl) ?_;refine Zx .a4 ?_;refine Zx .a5 ?_;refine Zy .a6 (fun B f=>by (try dsimp only at f);obtain⟨H,I,J,R,S⟩:=f;go_simp;rfl) ?_;(try simp only[Zq]);refine Zx .a7 ?_;refine Zx .a8 ?_;refine Zx .a9 ?_;refine Zy (.t .a0) (fun B f=>by (try dsimp only at f);obtain⟨H,I,J,R,S⟩:=f;go_simp;rfl) ?_;(try simp only[Zq]);refine Zx (.t .a1) ?_;refine Zw (.int .i64 1) (.t .a2) ?_ ?_;·intro B f;go_simp;rfl
     refine Zw (.pointer (some ⟨b,1,none⟩)) (.t .a3) ?_ ?_;·intro B f;go_simp;intro aV;omega
   rotate_left
   all_goals
     refine Zy (.t .a4) (fun B f=>by (try dsimp only at f);obtain⟨H,I,J,R,S⟩:=f;go_simp;rfl) ?_;(try simp only[Zq]);refine Zr [15] ?_;refine rdA (.t .a5) (fun bi aW=>?_) DR;go_simp;refine aS.out.mono ?_;rintro e bj ⟨rfl,bk,⟨aX,aY,aZ⟩,a0⟩;obtain⟨a1,bl,a2⟩:=aU.out bj bk;(go_wp2_with fail);refine aW.out _ _ (⟨a1,aX,aY,a2,aZ⟩) (fun aE=>?_);clear aW bi;(try simp only[Zq]);clear aE aX aY aZ;refine Zd ?_;(go_wp2_with fail);refine a0.out.mono ?_;rintro e bm ⟨rfl,bn,A⟩;have Z:=hidI A;obtain⟨H,I,J⟩:=aU.out bm bn;clear A a0 a1 bl a2;(go_wp2_with fail);go_end0
     exact Z.out
theorem C0 (v:Value) (a:World):(Instr.typeAssert (.iface 110 v) 66 75 true).run prog a=.ok (.tuple #[.pointer none,.bool false]) a:=by kernel_rfl
theorem vG {u:Value} (h:GM w P t u) (o:t.leaf=false->t.kids.length<=1000):Calls prog 35 #[u] w fun e E=>∃ z,e=.returned z∧E=w∧∃ A:Nat->Prop,GM w A (mV t) z∧∀ f,A f->P f:=by
 cases d:t.leaf
 ·obtain⟨L,a,n,c,ul,Q,rfl,b⟩:=h.inner d;have p:=hidI b;have q:=hidI d;have g:=b.box;have i:=b.len;have M:n<=1000:=(by rw[i];exact o d);obtain⟨N,s⟩:=Zn t.page;rw[s] at g;obtain⟨O,R⟩:=au g;have S:=Za g;have F:=Ah;have v:=hidI i;by_cases B:n=1
  ·subst B;obtain⟨j,k⟩:∃ j,t.kids=[j]:=List.length_eq_one_iff.1 i.symm;have y:=b.kid 0 j (by rw[k];exact D4 ..) (by rw[k];rfl);have C:ul.length=1:=(by have:=b.row.1;omega);obtain⟨x,D⟩:∃ x,ul=[x]:=List.length_eq_one_iff.1 C;have r:=b.row;rw[D] at r y;have G:Hid (GM w (Q 0) j x):=y;have l:Hid (mV t=j):=(by show _=_;unfold mV;rw[if_pos ⟨q.out,by rw[k];rfl⟩,k];rfl);rcases r.2 with ⟨_,e⟩ | ⟨f,T,U,e,_,H,V,W,I,J⟩;·omega
   simp only[Value.slice.injEq] at e;obtain⟨rfl,_,rfl⟩:=e;have K:=r.cellAt 0 (by omega);simp only[List.getElem?_cons_zero] at K;clear b i r y k D C H I J g h o d s v;go_enter func35,ntmps35;go_wp2_with fail
   go_ret;exact⟨_,rfl,rfl,Q 0,by rw[l.out];exact G.out,fun f m=>(p.out.sub 0 f m).1⟩
  ·have l:Hid (mV t=t):=(by show _=_;unfold mV;rw[if_neg (fun e=>B (by rw[v.out];exact e.2))]);clear b i g h o d s v;go_enter func35,ntmps35;go_wp2_with fail
   go_ret;exact⟨_,rfl,rfl,P,by rw[l.out];exact p.out.is q.out,fun f m=>m⟩
 ·obtain⟨L,a,n,c,rfl,b⟩:=h.leaf d;have p:=hidI b;have q:=hidI d;have F:=C0;have l:Hid (mV t=t):=(by show _=_;unfold mV;rw[if_neg (by rw[d];simp)]);clear b h o d;go_enter func35,ntmps35;go_wp2_with fail
  go_ret;exact⟨_,rfl,rfl,P,by rw[l.out];exact p.out.is q.out,fun f m=>m⟩
end Go.Proofs.YtgcedpmagmmikaaGreat
