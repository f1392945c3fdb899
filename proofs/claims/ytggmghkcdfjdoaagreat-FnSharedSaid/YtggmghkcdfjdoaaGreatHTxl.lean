import Derived.Test.YtggmghkcdfjdoaaGreatHTks
import Derived.Test.YtggmghkcdfjdoaaGreatHTvr
import Derived.Test.YtggmghkcdfjdoaaGreatHTxj
import Derived.Test.YtggmghkcdfjdoaaGreatHTdp
namespace Go.Proofs.YtggmghkcdfjdoaaGreat
set_option maxHeartbeats 4000000
open Go.RowKit Tryz
set_option linter.unusedVariables false
set_option linter.unusedSimpArgs false
set_option maxRecDepth 100000
variable {L c l:Nat} {P:Nat->Prop} {Q:Nat->Nat->Prop} {a:Option Addr} {t:T} {ul:List Value} {w:World}
theorem vD {P1 P2:Nat->Prop} {c a:T} {h u2:Value} (i:GM w P1 c h) (j:GM w P2 a u2) (e:c.leaf=a.leaf) (n:c.leaf=true->c.vals.length=c.keys.length∧c.over.length=c.keys.length∧c.kids=[]) (o:a.leaf=true->a.vals.length=a.keys.length∧a.over.length=a.keys.length∧a.kids=[]) (C:c.size<=1000) (D:a.size<=1000) (k:∀ b,P1 b->b<w.heap.size) (l:∀ b,P2 b->b<w.heap.size) (m:∀ b,P1 b->¬ P2 b) :
  Calls prog 103 #[h,u2] w fun p q=>kD w P1 P2 c a h p q:=by
 cases d:c.leaf;·obtain⟨r,s,t,u,E,F,rfl,f⟩:=i.inner d;obtain⟨v,x,y,z,G,H,rfl,g⟩:=j.inner (e ▸ d);have A:c.size=c.kids.length:=(by simp[T.size,d]);have B:a.size=a.kids.length:=(by simp[T.size,show a.leaf=false from e ▸ d]);exact qQ f g d (by have:=f.len;omega) (by have:=g.len;omega) k l m
 ·obtain⟨r,s,t,u,rfl,f⟩:=i.leaf d;obtain⟨v,x,y,z,rfl,g⟩:=j.leaf (e ▸ d);have A:c.size=c.keys.length:=(by simp[T.size,d]);have B:a.size=a.keys.length:=(by simp[T.size,show a.leaf=true from e ▸ d]);exact tK f g d (e ▸ d) (n d) (o (e ▸ d)) (by have:=f.len;omega) (by have:=g.len;omega) k l m
theorem gC.two {w3:World} {n:Nat} (h:gC w P t L a n c ul Q) (j:∀ b,P b->b<w.heap.size) (K:l+1<n) {P1 P2:Nat->Prop} {k1 k2:T} {u2:Value}
  (s:∀ b,P b->¬ Q l b->¬ Q (l+1) b->(Value.slice a n c).ownBlock≠some b->w3.heap[b]?=w.heap[b]?) (M:w.heap.size<=w3.heap.size) (C:w3.ownsRow 0 68 1 (.slice a n c) n (ul.set (l+1) u2))
  (D:GM w3 P1 k1 (ul.getD l .nilIface)) (E:GM w3 P2 k2 u2) (u:∀ b,P1 b->¬ P2 b) (v:∀ b,P1 b∨P2 b->(Q l b∨Q (l+1) b∨w.heap.size<=b)∧b<w3.heap.size) :
  gC w3 (fJ w w3 P) { t with kids:=(t.kids.set l k1).set (l+1) k2 } L a n c (ul.set (l+1) u2) (fun d b=>if d=l then P1 b else if d=l+1 then P2 b else Q d b):=by
 have N:ul.length=n:=by have:=h.row.1;omega
 have O:=h.len;have R:=j L h.at';have k:∀ d b,d≠l->d≠l+1->Q d b->¬ (P1 b∨P2 b):=by
  intro d b F G p H;rcases (v b H).1 with e | e | e;·exact F (h.dis d l b p e)
  ·exact G (h.dis d (l+1) b p e)
  ·have:=j b (h.sub d b p).1;omega
 have x:∀ b,P1 b∨P2 b->fJ w w3 P b∧b≠L∧(Value.slice a n c).ownBlock≠some b:=by
  intro b i;have m:=v b i;rcases m.1 with e | e | e;·exact⟨⟨.inl (h.sub l b e).1,m.2⟩,(h.sub l b e).2⟩
  ·exact⟨⟨.inl (h.sub (l+1) b e).1,m.2⟩,(h.sub (l+1) b e).2⟩
  ·exact⟨⟨.inr e,m.2⟩,by omega,fun I=>by have:=j b (h.blk b I).1;omega⟩
 refine⟨⟨.inl h.at',by omega⟩,(s L h.at' (fun e=>(h.sub l L e).2.1 rfl) (fun e=>(h.sub (l+1) L e).2.1 rfl) (fun e=>(h.blk L e).2 rfl)).trans h.box,C,fun o q=>⟨⟨.inl (h.blk o q).1,by have:=j o (h.blk o q).1;omega⟩,(h.blk o q).2⟩,by simpa using h.len,fun d r b f g=>?_,fun d b f=>?_,fun d y S f=>?_⟩
 ·skip;split at f
  ·split at g;·omega
   ·split at g;·exact absurd g (u b f)
    ·exact absurd (.inl f) (k r b (by assumption) (by assumption) g)
  ·split at f
   ·split at g;·exact absurd f (u b g)
    ·split at g;·omega
     ·exact absurd (.inr f) (k r b (by assumption) (by assumption) g)
   ·split at g;·exact absurd (.inl g) (k d b (by assumption) (by assumption) f)
    ·split at g;·exact absurd (.inr g) (k d b (by assumption) (by assumption) f)
     ·exact h.dis d r b f g
 ·skip;split at f;·exact x b (.inl f)
  ·split at f;·exact x b (.inr f)
   ·exact⟨⟨.inl (h.sub d b f).1,by have:=j b (h.sub d b f).1;omega⟩,(h.sub d b f).2⟩
 ·rcases mL f with ⟨rfl,rfl,_⟩ | ⟨z,J⟩;·have e:(ul.set (l+1) u2).getD (l+1) .nilIface=u2:=(by simp[List.getD,show l+1<ul.length by omega]);rw[e];simp only[if_neg (show ¬ (l+1=l) by omega),if_true];exact E
  ·have e:(ul.set (l+1) u2).getD d .nilIface=ul.getD d .nilIface:=(by simp only[List.getD];rw[Fl (by omega)]);rw[e];rcases mL J with ⟨rfl,rfl,_⟩ | ⟨A,B⟩;·simp only[if_true];exact D
   ·simp only[if_neg A,if_neg z];exact GM.keep y (Q d) (Q d) _ (fun b i=>s b (h.sub d b i).1 (fun e=>A (h.dis d l b i e)) (fun e=>z (h.dis d (l+1) b i e)) (h.sub d b i).2.2) (fun _ i=>i) (h.kid d y (Ew B) B)
theorem gC.less {w3:World} {m:Nat} (h:gC w P t L a (m+1) c ul Q) (o:∀ b,P b->b<w.heap.size) (N:l+1<m+1) {P1:Nat->Prop} {k1:T}
  (D:∀ b,P b->¬ Q l b->b≠L->(Value.slice a (m+1) c).ownBlock≠some b->w3.heap[b]?=w.heap[b]?) (E:w3.heap[L]?=some (.cells #[.int .i64 t.page,.slice a m c] 83)) (O:w.heap.size<=w3.heap.size) (F:w3.ownsRow 0 68 1 (.slice a m c) m (ul.take (l+1)++ul.drop (l+2)))
  (G:GM w3 P1 k1 (ul.getD l .nilIface)) (z:∀ b,P1 b->(Q l b∨Q (l+1) b∨w.heap.size<=b)∧b<w3.heap.size) :
  gC w3 (fJ w w3 P) { t with kids:=t.kids.take l++[k1]++t.kids.drop (l+2) } L a m c (ul.take (l+1)++ul.drop (l+2)) (fun d b=>if d<l then Q d b else if d=l then P1 b else Q (d+1) b):=by
 have R:ul.length=m+1:=by have:=h.row.1;omega
 have S:=h.len;have U:=o L h.at';have A:(Value.slice a m c).ownBlock=(Value.slice a (m+1) c).ownBlock:=by cases a<;>rfl
 have q:∀ d b,d≠l->d≠l+1->Q d b->¬ P1 b:=by
  intro d b p r x H;rcases (z b H).1 with f | f | f;·exact p (h.dis d l b x f)
  ·exact r (h.dis d (l+1) b x f)
  ·have:=o b (h.sub d b x).1;omega
 have I:∀ b,P1 b->fJ w w3 P b∧b≠L∧(Value.slice a (m+1) c).ownBlock≠some b:=by
  intro b j;have s:=z b j;rcases s.1 with f | f | f;·exact⟨⟨.inl (h.sub l b f).1,s.2⟩,(h.sub l b f).2⟩
  ·exact⟨⟨.inl (h.sub (l+1) b f).1,s.2⟩,(h.sub (l+1) b f).2⟩
  ·exact⟨⟨.inr f,s.2⟩,by omega,fun J=>by have:=o b (h.blk b J).1;omega⟩
 have B:∀ d b,Q d b->fJ w w3 P b∧b≠L∧(Value.slice a (m+1) c).ownBlock≠some b:=fun d b e=>⟨⟨.inl (h.sub d b e).1,by have:=o b (h.sub d b e).1;omega⟩,(h.sub d b e).2⟩;have C:∀ d k,d≠l->t.kids[d]?=some k->GM w3 (Q d) k (ul.getD d .nilIface):=fun d k K y =>GM.keep k (Q d) (Q d) _ (fun b j=>D b (h.sub d b j).1 (fun f=>K (h.dis d l b j f)) (h.sub d b j).2.1 (h.sub d b j).2.2) (fun _ j=>j) (h.kid d k (Ew y) y);refine⟨⟨.inl h.at',by omega⟩,E,F,fun u v=>?_,?_,fun d n b e g=>?_,fun d b e=>?_,fun d k y e=>?_⟩;·rw[A] at v;exact⟨⟨.inl (h.blk u v).1,by have:=o u (h.blk u v).1;omega⟩,(h.blk u v).2⟩
 ·simp only[El,Eu,ET,EU,List.length_nil];omega
 ·skip;split at e
  ·split at g;·exact h.dis d n b e g
   ·split at g;·exact absurd g (q d b (by omega) (by omega) e)
    ·have:=h.dis d (n+1) b e g;omega
  ·split at e
   ·split at g;·exact absurd e (q n b (by omega) (by omega) g)
    ·split at g;·omega
     ·exact absurd e (q (n+1) b (by omega) (by omega) g)
   ·split at g;·have:=h.dis (d+1) n b e g;omega
    ·split at g;·exact absurd g (q (d+1) b (by omega) (by omega) e)
     ·have:=h.dis (d+1) (n+1) b e g;omega
 ·rw[A];split at e;·exact B d b e
  ·split at e;·exact I b e
   ·exact B _ b e
 ·dsimp only at e;rw[EA] at e;by_cases p:d<l;·rw[EE (by rw[Eu];omega),E9,if_pos p] at e;have f:(ul.take (l+1)++ul.drop (l+2)).getD d .nilIface=ul.getD d .nilIface:=(by simp only[List.getD];rw[EE (by rw[Eu];omega),E9,if_pos (by omega)]);rw[f];simp only[if_pos p];exact C d k (by omega) e
  ·rw[EB (by rw[Eu];omega),Eu,show min l t.kids.length=l by omega] at e;by_cases r:d=l;·subst r;simp at e;subst e;have f:(ul.take (d+1)++ul.drop (d+2)).getD d .nilIface=ul.getD d .nilIface:=(by simp only[List.getD];rw[EE (by rw[Eu];omega),E9,if_pos (by omega)]);rw[f];simp only[Fs,EO,if_true];exact G
   ·obtain⟨i,rfl⟩:∃ i,d=l+1+i:=⟨d - (l+1),by omega⟩;have M:l+1+i - l=i+1:=(by omega);rw[M] at e;simp only[Fj,ED,List.getElem?_cons_succ,E2] at e;have f:(ul.take (l+1)++ul.drop (l+2)).getD (l+1+i) .nilIface=ul.getD (l+2+i) .nilIface:=(by simp only[List.getD];rw[EB (by rw[Eu];omega),Eu,show min (l+1) ul.length=l+1 by omega,show l+1+i - (l+1)=i by omega,E2]);rw[f];simp only[if_neg p,if_neg r,show l+1+i+1=l+2+i by omega];exact C (l+2+i) k (by omega) e
def jq (w:World) (P:Nat->Prop) (t:T) (L:Nat) (ys:List T) (e:Ending) (w':World):Prop:=e=.returned (.tuple #[])∧(∃ (P':Nat->Prop) (a:Option Addr) (n c:Nat) (ul:List Value) (Q:Nat->Nat->Prop),gC w' P' { t with kids:=ys } L a n c ul Q∧∀ b,P' b->(P b∨w.heap.size<=b)∧b<w'.heap.size)∧Fr P w w'
theorem vE {n k:Nat} (h:gC w P t L a n c ul Q) (B:∀ e,P e->e<w.heap.size) (aD:l+1<n) (bA:n<=1000) {x y:T} (ad:t.kids[l]?=some x) (ae:t.kids[l+1]?=some y) (ah:x.leaf=y.leaf) (aE:x.leaf=true->x.vals.length=x.keys.length∧x.over.length=x.keys.length∧x.kids=[]) (aF:y.leaf=true->y.vals.length=y.keys.length∧y.over.length=y.keys.length∧y.kids=[]) (aG:x.size<=400) (aH:y.size<=400) (ai:0<k∧k<x.size+y.size) :
  Calls prog 102 #[.pointer (some ⟨L,0,none⟩),.int .i64 l,.int .i64 k] w fun d j=>jq w P t L ((t.kids.set l ((ag x y).fore k)).set (l+1) ((ag x y).rest k)) d j:=by
 obtain⟨W,aj⟩:=Zn w.heap.size;have C:=hidI h;have bB:ul.length=n:=by have:=h.row.1;omega
 obtain⟨e,q,r,rfl,ak,I⟩:=gW h (show l<n by omega);obtain⟨_,J,K,a2,aI,X⟩:=gW h aD;cases a2;have al:=h.kid l x (Ew ad) ad;have an:=h.kid (l+1) y (Ew ae) ae;rw[ak] at al;rw[aI] at an;have ao:=h.box;have Y:=h.row;have a3:=h.at';have aJ:(ag x y).size=x.size+y.size:=by unfold T.size ag;rw[<-ah];cases x.leaf<;>simp
 have aK:∀ Z,Z=w.drew->Calls prog 103 #[.iface q r,.iface J K] Z fun d j=>kD Z (Q l) (Q (l+1)) x y (.iface q r) d j:=fun Z a4=>by subst a4;exact vD al.drew an.drew ah aE aF (by omega) (by omega) (fun b g=>B b (h.sub l b g).1) (fun b g=>B b (h.sub (l+1) b g).1) (fun b a5 a6=>by have:=h.dis l (l+1) b a5 a6;omega)
 have aL:=aK w.drew rfl;have aM:Hid (Calls prog 103 #[.iface q r,.iface J K] w.drew fun d p=>d=.returned (.tuple #[])∧Hid (∃ A:Nat->Prop,GM p A (ag x y) (.iface q r)∧∀ b,A b->(Q l b∨Q (l+1) b∨W<=b)∧b<p.heap.size)∧Fr (Q l) w p):=by refine aL.mono ?_;rintro d p ⟨rfl,M,a7⟩;exact⟨rfl,by rw[<-aj];exact M,(Fr.of_below ((Ev _ w).drew)).trans a7⟩
 have bC:L<W:=by have:=B L a3;omega
 have bD:e<W:=by have:=B e (h.blk e rfl).1;omega
 have aN:¬ Q l L:=fun d=>(h.sub l L d).2.1 rfl;have ap:¬ Q l e:=fun d=>(h.sub l e d).2.2 rfl;obtain⟨bE,aq⟩:=Zn t.page;rw[aq] at ao;obtain⟨a8,ar⟩:=au ao;have av:L<w.heap.size:=by omega
 have aw:e<w.heap.size:=by omega
 have ax:n<=c∧c<=maxLen:=by
  rcases Y.2 with ⟨d,aa⟩ | ⟨aO,bF,bG,d,_,_,a9,a',_⟩;·cases d
  ·simp only[Value.slice.injEq] at d;obtain⟨_,_,rfl⟩:=d;exact⟨a9,a'⟩
 have bH:=ax.1;have ba:=ax.2;unfold maxLen at ba;have bI:IntKind.i64.wrap ((l:Int)+1)=(l:Int)+1:=by rw[Fa];omega
 have aP:=hidI aJ;have ay:Hid (0<k∧k<x.size+y.size∧x.size<=400∧y.size<=400):=⟨ai.1,ai.2,aG,aH⟩;have bJ:=hidI aq;have bb:=hidI ak;clear h ad ae ah aE aF aG aH ai aK aL al an ak aI ax aJ aq;go_enter func102,ntmps102;go_upto_region 0 with fail
 refine Zg (fun j:World=>j.cell? ⟨L,1,none⟩=some (.slice (some ⟨e,0,none⟩) n c)∧j.cell? ⟨e,l,none⟩=some (.iface q r)∧j.cell? ⟨e,l+1,none⟩=some (.iface J K)∧L<j.heap.size∧e<j.heap.size) (⟨ar,I,X,av,aw⟩) (fun D=>?_);refine Zx .a0 ?_;refine Zx .a1 ?_;refine Zx .a2 ?_;refine Zy .a3 (fun s f=>by (try dsimp only at f);obtain⟨E,F,az,G,H⟩:=f;go_simp;rfl) ?_;try simp only[Zq]
 refine Zx .a4 ?_;refine Zw (.pointer (some ⟨e,l,none⟩)) .a5 ?_ ?_;·intro s f;go_simp;intro aA;omega
 refine Zy .a6 (fun s f=>by (try dsimp only at f);obtain⟨E,F,az,G,H⟩:=f;go_simp;rfl) ?_;refine Zx .a7 ?_;try simp only[Zq]
 refine Zx .a8 ?_;refine Zx .a9 ?_;refine Zy (.t .a0) (fun s f=>by (try dsimp only at f);obtain⟨E,F,az,G,H⟩:=f;go_simp;rfl) ?_;refine Zx (.t .a1) ?_;try simp only[Zq]
 refine Zx (.t .a2) ?_;refine Zw (.pointer (some ⟨e,l+1,none⟩)) (.t .a3) ?_ ?_;·intro s f;go_simp;intro aA;omega
 refine Zy (.t .a4) (fun s f=>by (try dsimp only at f);obtain⟨E,F,az,G,H⟩:=f;go_simp;rfl) ?_;try simp only[Zq]
 refine Zr [15] ?_;refine rdA (.t .a5) (fun N v=>?_) Ei;go_simp;refine aM.out.mono ?_;rintro d p ⟨rfl,aQ,u⟩;have bK:=u.size;have aR:=u.block L av aN;have aB:=u.block e aw ap;go_wp2_with fail
 refine v.out _ _ (⟨(Ep (w:=w) (a:=⟨L,1,none⟩) aR).trans ar,(Ep (w:=w) (a:=⟨e,l,none⟩) aB).trans I,(Ep (w:=w) (a:=⟨e,l+1,none⟩) aB).trans X,by omega,by omega⟩) (fun D=>?_);clear v N;try simp only[Zq]
 clear D aR aB;refine Zd ?_;have aC:=(u.block L av aN).trans ao;have pY:=am Y u (fun aO M d=>by cases M;exact ap d);obtain⟨A,aS,O⟩:=aQ.out;have R:∀ b,A b->(P b∨W<=b)∧b≠L∧b≠e:=fun b g=>by
  rcases (O b g).1 with d | d | d;·have:=C.out.sub l b d;exact⟨.inl this.1,this.2.1,fun aa=>this.2.2 (by rw[aa];rfl)⟩
  ·have:=C.out.sub (l+1) b d;exact⟨.inl this.1,this.2.1,fun aa=>this.2.2 (by rw[aa];rfl)⟩
  ·exact⟨.inr d,by omega,by omega⟩
 have aT:=pB aS.drew k ay.out.1 (by rw[aP.out];exact ay.out.2.1) (by rw[aP.out];have:=ay.out;omega) (fun b g=>(O b g).2);have bc:Hid (Calls prog 26 #[.iface q r,.int .i64 k] p.drew fun d i=>∃ m o,d=.returned (.iface m o)∧(i.cell? ⟨e,l+1,none⟩=some (.iface J K)∧i.frozen? ⟨e,l+1,none⟩=false∧e<i.heap.size∧L<i.heap.size)∧jq w P t L ((t.kids.set l ((ag x y).fore k)).set (l+1) ((ag x y).rest k)) (.returned (.tuple #[])) (i.setCell ⟨e,l+1,none⟩ (.iface m o))∧(i.cell? ⟨L,1,none⟩=some (.slice (some ⟨e,0,none⟩) n c)∧i.cell? ⟨e,l,none⟩=some (.iface q r)∧L<i.heap.size∧e<i.heap.size)∧((i.setCell ⟨e,l+1,none⟩ (.iface m o)).cell? ⟨L,1,none⟩=some (.slice (some ⟨e,0,none⟩) n c)∧(i.setCell ⟨e,l+1,none⟩ (.iface m o)).cell? ⟨e,l,none⟩=some (.iface q r)∧L<(i.setCell ⟨e,l+1,none⟩ (.iface m o)).heap.size∧e<(i.setCell ⟨e,l+1,none⟩ (.iface m o)).heap.size)):=by
  refine aT.mono ?_;rintro d i ⟨bL,rfl,⟨S,U,q1,q2,bd,be⟩,bf⟩;obtain⟨m,o,rfl⟩:=q2.shape;have V:=(Fr.of_below ((Ev _ p).drew)).trans bf;have bM:=V.size;have ab:=am pY V (fun aO M d=>by cases M;exact (R e d).2.2 rfl);have bg:=ab.cellAt (l+1) (by omega);have aU:e<i.heap.size:=(by omega);have bh:ul[l+1]?=some (.iface J K):=(by have:=Y.cellAt (l+1) (by omega);rw[<-this];exact X);have z:=af i e (l+1) (.iface m o);have aV:=(ab.stored (l+1) (.iface m o)).1;have ac:∀ b,S b∨U b->(A b∨p.heap.size<=b)∧b<i.heap.size:=be;have aW:∀ b,S b∨U b->b≠e:=fun b g=>by
   rcases (ac b g).1 with d | d;·exact (R b d).2.2
   ·omega
  have bi:=C.out.two (w3:=i.setCell ⟨e,l+1,none⟩ (.iface m o)) B aD (P1:=S) (P2:=U) (k1:=(ag x y).fore k) (k2:=(ag x y).rest k) (u2:=.iface m o) (fun b g aX bj bk=>by
   have bl:=B b g;have bm:b≠e:=fun d=>bk (by rw[d];rfl);have bn:¬ A b:=fun d=>by
    rcases (O b d).1 with d | d | d;·exact aX d
    ·exact bj d
    ·omega
   exact ((z.block b (by omega) bm).trans (V.block b (by omega) bn)).trans (u.block b bl aX)) (by have:=z.size;omega) aV
   (by rw[bb.out];exact GM.keep _ S S _ (fun b g=>z.block b (ac b (.inl g)).2 (aW b (.inl g))) (fun _ h=>h) q1)
   (GM.keep _ U U _ (fun b g=>z.block b (ac b (.inr g)).2 (aW b (.inr g))) (fun _ h=>h) q2) bd (fun b g=>by
    have bo:=ac b g;refine⟨?_,by have:=z.size;omega⟩;rcases bo.1 with d | d;·have:=(O b d).1;rw[<-aj] at this;exact this
    ·exact .inr (.inr (by omega)))
  have aY:=(V.block L (by omega) (fun d=>(R L d).2.1 rfl)).trans aC;have bp:=(z.block L (by omega) (fun d=>(C.out.blk e rfl).2 d.symm)).trans aY;have bN:=z.size;have aZ:ul[l]?=some (.iface q r):=(by have:=Y.cellAt l (by omega);rw[<-this];exact I);refine⟨m,o,rfl,⟨by rw[bg];exact bh,ab.frozenAt _,aU,by omega⟩,?_,⟨(au aY).2,by rw[ab.cellAt l (by omega)];exact aZ,by omega,aU⟩,⟨(au bp).2,by rw[aV.cellAt l (by omega),Fl (by omega)];exact aZ,by omega,by omega⟩⟩;refine⟨rfl,⟨_,_,_,_,_,_,bi,fun b g=>⟨g.1,g.2⟩⟩,?_⟩;refine eV ?_;have bq:Fr (fun b=>P b∨w.heap.size<=b) w p:=u.weak (fun b d=>.inl (C.out.sub l b d).1);have br:Fr (fun b=>P b∨w.heap.size<=b) p i:=V.weak (fun b d=>by rw[aj];exact (R b d).1);exact (bq.trans br).trans (z.weak (fun b d=>by rw[d];exact .inl (C.out.blk e rfl).1))
 have bs:=(Ep (w:=w) (a:=⟨e,l,none⟩) (u.block e aw ap)).trans I;obtain⟨bO,bt⟩:=au aC;have bu:L<p.heap.size:=by omega
 have bv:e<p.heap.size:=by omega
 clear aT aS O R A aQ aC pY a8 ar I X u aM;go_upto_region 1 with fail
 refine Zg (fun j:World=>j.cell? ⟨L,1,none⟩=some (.slice (some ⟨e,0,none⟩) n c)∧j.cell? ⟨e,l,none⟩=some (.iface q r)∧L<j.heap.size∧e<j.heap.size) (⟨bt,bs,bu,bv⟩) (fun D=>?_);refine Zx .a0 ?_;refine Zx .a1 ?_;refine Zx .a2 ?_;refine Zy .a3 (fun s f=>by (try dsimp only at f);obtain⟨E,F,G,H⟩:=f;go_simp;rfl) ?_;try simp only[Zq]
 refine Zx .a4 ?_;refine Zx .a5 ?_;refine Zx .a6 ?_;refine Zx .a7 ?_;try simp only[Zq]
 refine Zx .a8 ?_;refine Zy .a9 (fun s f=>by (try dsimp only at f);obtain⟨E,F,G,H⟩:=f;go_simp;rfl) ?_;refine Zx (.t .a0) ?_;refine Zw (.pointer (some ⟨e,l,none⟩)) (.t .a1) ?_ ?_;·intro s f;go_simp;intro aA;omega
 try simp only[Zq]
 refine Zy (.t .a2) (fun s f=>by (try dsimp only at f);obtain⟨E,F,G,H⟩:=f;go_simp;rfl) ?_;refine Zx (.t .a3) ?_;try simp only[Zq]
 refine Zr [14] ?_;refine rdA (.t .a4) (fun N v=>?_) Ei;go_simp;refine bc.out.mono ?_;rintro d i ⟨m,o,rfl,⟨bP,bQ,bR,bS⟩,a0,bw,a1⟩;have bx:=hidI a0;have bz:Hid _:=a1;clear a0 a1;go_wp2_with fail
 refine v.out _ _ (bw) (fun D=>?_);clear v N;refine Zw (.pointer (some ⟨e,l+1,none⟩)) (.t .a5) ?_ ?_;·intro s f;go_simp;intro aA;omega
 try simp only[Zq]
 refine Zr [16] ?_;refine rdA (.t .a6) (fun N v=>?_) Ei;go_simp;refine v.out _ _ (bz.out) (fun D=>?_);clear v N;try simp only[Zq]
 refine Zd ?_;clear D;go_wp2_with fail
 go_end0
 exact bx.out
theorem C0 (v:Value) (a:World):(Instr.typeAssert (.iface 123 v) 68 77 true).run prog a=.ok (.tuple #[.pointer none,.bool false]) a:=by kernel_rfl
theorem vG {u:Value} (h:GM w P t u) (n:t.leaf=false->t.kids.length<=1000):Calls prog 29 #[u] w fun e E=>∃ z,e=.returned z∧E=w∧∃ A:Nat->Prop,GM w A (mV t) z∧∀ f,A f->P f:=by
 cases d:t.leaf
 ·obtain⟨L,a,r,c,ul,Q,rfl,b⟩:=h.inner d;have o:=hidI b;have p:=hidI d;have g:=b.box;have i:=b.len;have M:r<=1000:=(by rw[i];exact n d);obtain⟨N,s⟩:=Zn t.page;rw[s] at g;obtain⟨O,R⟩:=au g;have S:=Za g;have F:=Ah;have v:=hidI i;by_cases B:r=1
  ·subst B;obtain⟨j,k⟩:∃ j,t.kids=[j]:=List.length_eq_one_iff.1 i.symm;have x:=b.kid 0 j (by rw[k];exact Et ..) (by rw[k];rfl);have C:ul.length=1:=(by have:=b.row.1;omega);obtain⟨y,D⟩:∃ y,ul=[y]:=List.length_eq_one_iff.1 C;have q:=b.row;rw[D] at q x;have G:Hid (GM w (Q 0) j y):=x;have l:Hid (mV t=j):=(by show _=_;unfold mV;rw[if_pos ⟨p.out,by rw[k];rfl⟩,k];rfl);rcases q.2 with ⟨_,e⟩ | ⟨f,T,U,e,_,H,V,W,I,J⟩;·omega
   simp only[Value.slice.injEq] at e;obtain⟨rfl,_,rfl⟩:=e;have K:=q.cellAt 0 (by omega);simp only[List.getElem?_cons_zero] at K;clear b i q x k D C H I J g h n d s v;go_enter func29,ntmps29;go_wp2_with fail
   go_ret;exact⟨_,rfl,rfl,Q 0,by rw[l.out];exact G.out,fun f m=>(o.out.sub 0 f m).1⟩
  ·have l:Hid (mV t=t):=(by show _=_;unfold mV;rw[if_neg (fun e=>B (by rw[v.out];exact e.2))]);clear b i g h n d s v;go_enter func29,ntmps29;go_wp2_with fail
   go_ret;exact⟨_,rfl,rfl,P,by rw[l.out];exact o.out.is p.out,fun f m=>m⟩
 ·obtain⟨L,a,r,c,rfl,b⟩:=h.leaf d;have o:=hidI b;have p:=hidI d;have F:=C0;have l:Hid (mV t=t):=(by show _=_;unfold mV;rw[if_neg (by rw[d];simp)]);clear b h n d;go_enter func29,ntmps29;go_wp2_with fail
  go_ret;exact⟨_,rfl,rfl,P,by rw[l.out];exact o.out.is p.out,fun f m=>m⟩
end Go.Proofs.YtggmghkcdfjdoaaGreat
