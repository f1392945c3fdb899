import Derived.Test.YtkhglgalbifcnaaGreatGAA
import Derived.Test.YtkhglgalbifcnaaGreatGBG
namespace Go.Proofs.YtkhglgalbifcnaaGreat
open Go.RowKit
set_option linter.unusedVariables false
set_option linter.unusedSimpArgs false
set_option maxRecDepth 100000
theorem cell_six_newP (w:World) (a b c d e f:Value) (t:TypeId):∀ j u,[a,b,c,d,e,f][j]?=some u->(w.alloc (.cells #[a,b,c,d,e,f] t)).cell? ((⟨w.heap.size,0,none⟩:Addr).add j)=some u:=by
 intro j u h
 match j,h with
 | 0,h=>simpa[Addr.add] using h
 | 1,h=>simpa[Addr.add] using h
 | 2,h=>simpa[Addr.add] using h
 | 3,h=>simpa[Addr.add] using h
 | 4,h=>simpa[Addr.add] using h
 | 5,h=>simpa[Addr.add] using h
theorem IkSt.box {X:Nat->Prop} {w wr:World} {N P U A pc Bn nc n sc xm xc:Nat} {pv0 nv0:Value} {bx:Array Value} {Q R:Nat->Prop} {ys:List T} {sa pa na xa:Option Addr} {css:Nat->List Value} {tx:Int} {ks:List PK} {s:PSt} (h:IkSt X w wr N P U pv0 nv0 bx Q R ys n sa sc css pa A pc na Bn nc tx s xa xm xc ks) (i:Nat) (v:Value):IkSt X w (wr.setCell ⟨N,i,none⟩ v) N P U pv0 nv0 (bx.setIfInBounds i v) Q R ys n sa sc css pa A pc na Bn nc tx s xa xm xc ks:=by
 have hf:=fr_setT wr N i v
 refine⟨h.lf.box i v,h.pg.st h.lf.k0 (by decide) (by decide) (by omega) v,h.len,owns_fr h.row hf (fun g e e'=>by have:=(h.row.lt g e).1;omega),fun j z hz=>NodeQ.keep (fun g q hg=>hf.block g hg (fun e=>?_)) (fun _ q=>q) hf.size _ _ (h.nd j z hz),fun g q=>?_⟩
 ·rcases (h.hR g q).1 with a1 | a1<;>omega
 ·obtain⟨a1,a2,a3,a4,a5⟩:=h.hR g q
  exact⟨a1,Nat.lt_of_lt_of_le a2 hf.size,a3,a4,a5⟩
theorem sum_takeN (l:List T) (i:Nat) (k:T) (h:l[i]?=some k):((l.take (i+1)).map T.nodes).sum=((l.take i).map T.nodes).sum+k.nodes∧((l.take (i+1)).map T.nodes).sum<=(l.map T.nodes).sum:=by
 have hi:=(List.getElem?_eq_some_iff.1 h).1
 have e:l.take (i+1)=l.take i++[k]:=by
  rw[List.take_add_one,h]
  rfl
 constructor
 ·rw[e];simp
 ·conv=>rhs;rw[<-List.take_append_drop (i+1) l]
  rw[List.map_append,List.sum_append]
  omega
set_option maxHeartbeats 16000000 in
theorem l4Place_inner (t:T) (hl:t.leaf=false) (hp:t.page=0) (hg:∃ r,t.good r=true) (hne:Neat t) (ih:∀ k ∈ t.kids,PlCall k):PlCall t:=by
 intro Xs P U pa a pc na b nc tx s w Q v hXs hPA hal0 hbl0 hSN hQ ha hb
 obtain⟨ka,kn,kc,va,vn,vc,oa,on,oc,ya,yc,css,rfl,hX⟩:=hSN
 obtain⟨r,hg⟩:=hg
 have hgp:=good_parts hg
 obtain⟨hk0,hv0,ho0,hy0⟩:=((neat_eq t).1 hne).2.1 hl
 have hkn:=((neat_eq t).1 hne).2.2
 obtain⟨yn,hyn⟩:∃ yn,t.kids.length=yn:=⟨_,rfl⟩
 have hy4:yn<=4:=by have:=hgp.1.2;simpa[T.size,hl,hyn] using this
 obtain⟨N,hN⟩:∃ N,w.heap.size=N:=⟨_,rfl⟩
 obtain rfl:kn=0:=by have:=hX.nx.keys.1;rw[hk0] at this;simpa using this.symm
 obtain rfl:vn=0:=by have:=hX.nx.vals.1;rw[hv0] at this;simpa using this.symm
 obtain rfl:on=0:=by have:=hX.nx.over.1;rw[ho0] at this;simpa using this.symm
 have HND:Hid (t.nodes=1+(t.kids.map T.nodes).sum∧a+21*t.nodes<=1000000∧b+21*t.nodes<=1000000):=⟨T.nodes_eq t,ha,hb⟩
 have HKN:Hid (∀ k ∈ t.kids,Neat k):=hkn
 have HYS:Hid (True∧True∧∀ g,Xs g->g<N):=⟨trivial,trivial,fun g e=>hN ▸ hXs g e⟩
 have HAL0:Hid (a=s.log.length∧b=s.log.length):=⟨hal0,hbl0⟩
 clear hXs hal0 hbl0
 have HYN:Hid (t.kids.length=yn):=hyn
 have hcp:=hX.nx.cap
 obtain⟨hcp1,hcp2⟩:=hcp
 unfold maxLen at hcp2
 rw[hl,hp]
 rw[hyn] at hcp1 ⊢
 have HX:Hid (QX w w.heap.size Q t ka 0 kc va 0 vc oa 0 oc ya yc css):=hX
 have HQ:Hid (∀ g,Q g->g<N∧¬ ZP P U (.slice pa a pc) (.slice na b nc) g):=fun g e=>hN ▸ hQ g e
 have HZ0:Hid (∀ g,ZP P U (.slice pa a pc) (.slice na b nc) g->g<N):=fun g e=>hN ▸ hPA.lt e
 have HPL:Hid (placeT t s=endP false [] [] (stepsP (t.kids.map placeT) s).1 ([],(stepsP (t.kids.map placeT) s).2)):=by show _=_;rw[placeT_eq,if_neg (by simp[hp]),hl,hk0,hv0,ho0];rfl
 have HKY:Hid (t.keys=[]∧t.vals=[]∧t.over=[]):=⟨hk0,hv0,ho0⟩
 have HZR:Hid (∀ W:World,Fr (ZP P U (.slice pa a pc) (.slice na b nc)) w W->QX W W.heap.size Q t ka 0 kc va 0 vc oa 0 oc ya yc css):=fun W hf=>HX.out.keep (fun g hq hlt=>hf.block g hlt (HQ.out g hq).2) (fun _ h=>h) hf.size
 have HIH:Hid (∀ k ∈ t.kids,PlCall k):=ih
 obtain⟨ip,hip,hp0,hp1,hp2⟩:=info_parts info_PageP
 obtain⟨ii,hii,hj0,hj1,hj2⟩:=info_parts info_int64
 obtain⟨ik,hik,hi0,hi1,hi2⟩:=info_parts info_KidP
 obtain⟨il,hil,hl0,hl1,hl2⟩:=info_parts info_l3N
 obtain⟨W2,hW2⟩:∃ W2,W2=((w.alloc (.cells #[.bool false,.int .i64 0,.slice ka 0 kc,.slice va 0 vc,.slice oa 0 oc,.slice ya yn yc] 49)).alloc (.cells #[.bool false,.int .i64 0,.slice none 0 0,.slice none 0 0,.slice none 0 0,.slice none 0 0] 49)):=⟨_,rfl⟩
 have al:=alloc2N w (.cells #[.bool false,.int .i64 0,.slice ka 0 kc,.slice va 0 vc,.slice oa 0 oc,.slice ya yn yc] 49) (.cells #[.bool false,.int .i64 0,.slice none 0 0,.slice none 0 0,.slice none 0 0,.slice none 0 0] 49)
 rw[<-hW2,hN] at al
 obtain⟨k02,k12,sW2,bW2⟩:=al
 have HPA2:Hid (PAt Xs W2 P U (.slice pa a pc) a (.slice na b nc) b tx s):=hPA.below (by rw[hN];exact bW2)
 obtain⟨b0,b1,b2,b3,b4⟩:=box5P HPA2.out.box
 have lP:=HPA2.out.lt (.inl rfl)
 obtain⟨W,hW⟩:∃ W,W=((W2.alloc (.cells #[.int .i64 2,.int .i64 tx,.int .i64 0,.int .i64 0,.int .i64 0,.slice none 0 0,.slice none 0 0,.int .i64 0,.string ⟨#[]⟩] 93)).alloc (.cells #[] 49)):=⟨_,rfl⟩
 have al:=alloc2N W2 (.cells #[.int .i64 2,.int .i64 tx,.int .i64 0,.int .i64 0,.int .i64 0,.slice none 0 0,.slice none 0 0,.int .i64 0,.string ⟨#[]⟩] 93) (.cells #[] 49)
 rw[<-hW,sW2] at al
 obtain⟨k2,k3,sW,bWW⟩:=al
 have k0:=(bWW.block N (by omega)).trans k02
 have k1:=(bWW.block (N+1) (by omega)).trans k12
 have bW:Below N w W:=bW2.trans (bWW.mono (by omega))
 have hrow:W.ownsRow (N+3) 49 6 (.slice (some ⟨N+3,0,none⟩) 0 0) 0 (rowsC (fun _=>[]) 0):=by
  have h9:=emptyE (W2.alloc (.cells #[.int .i64 2,.int .i64 tx,.int .i64 0,.int .i64 0,.int .i64 0,.slice none 0 0,.slice none 0 0,.int .i64 0,.string ⟨#[]⟩] 93)) 49 6 (N+3) (by simp[sW2])
  rw[<-hW,show (W2.alloc (.cells #[.int .i64 2,.int .i64 tx,.int .i64 0,.int .i64 0,.int .i64 0,.slice none 0 0,.slice none 0 0,.int .i64 0,.string ⟨#[]⟩] 93)).heap.size=N+3 by simp[sW2]] at h9
  exact h9
 have HI0:Hid (IkSt Xs w W N P U (.slice pa a pc) (.slice na b nc) #[.bool false,.int .i64 0,.slice ka 0 kc,.slice va 0 vc,.slice oa 0 oc,.slice ya yn yc] Q Q (stepsP ((t.kids.take 0).map placeT) s).1 0 (some ⟨N+3,0,none⟩) 0 (fun _=>[]) pa a pc na b nc tx (stepsP ((t.kids.take 0).map placeT) s).2 none 0 0 (kidsC (stepsP ((t.kids.take 0).map placeT) s).1)) :=
  ⟨⟨Fr.of_below (by rw[hN];exact bW),k0,k1,owns_nilP _ _ _ _,(hPA.below (by rw[hN];exact bW)).less (fun g q _=>q.elim id (fun q=>by simp[Value.ownBlock] at q)),fun g e=>.inl e,HZ0.out,hN,fun g e=>by simp[Value.ownBlock] at e,by omega⟩,⟨k2,owns_nilP _ _ _ _,owns_nilP _ _ _ _⟩,rfl,hrow,fun i z hz=>by simp[stepsP] at hz,fun g q=>⟨.inl ⟨q,(HQ.out g q).1⟩,by have:=(HQ.out g q).1;omega,(HQ.out g q).2,fun e=>by have:N+3=g:=Option.some.inj e;have:=(HQ.out g q).1;omega,fun e=>by simp[Value.ownBlock] at e⟩⟩
 clear hX hQ hPA hgp hl hp hg hne hkn ha hb hk0 hv0 ho0 hy0 hyn ih
 obtain⟨c0,c1,c2,c3,c4,c5⟩:=box6g k02
 have l02:N<W2.heap.size:=by omega
 have hp02:((0:Int) != 0)=false:=rfl
 go_enter Tryz.func21,Tryz.ntmps21
 go_upto_region 1 with fail
 rw[<-hW2]
 clear hW2
 go_upto_region 5 with fail
 try simp only[sW2]
 rw[<-hW]
 clear hW c0 c1 c2 c3 c4 c5 l02 b0 b1 b2 b3 b4 k0 k1 k2 k3 k02 k12 sW bWW bW bW2 hrow HPA2 lP sW2
 go_wp2_with fail
 go_loopg [6,7] yn (fun gk kv iv wq=>∃ (i:Nat) (R:Nat->Prop) (sa:Option Addr) (sc:Nat) (css1:Nat->List Value) (pa1:Option Addr) (A pc1:Nat) (na1:Option Addr) (Bn nc1:Nat) (xk:Option Addr) (xkc:Nat),i<=yn∧gk=yn - i∧iv=.int .i64 (i:Int)∧kv=.slice sa i sc∧Hid (IkSt Xs w wq N P U (.slice pa a pc) (.slice na b nc) #[.bool false,.int .i64 0,.slice ka 0 kc,.slice va 0 vc,.slice oa 0 oc,.slice ya yn yc] Q R (stepsP ((t.kids.take i).map placeT) s).1 i sa sc css1 pa1 A pc1 na1 Bn nc1 tx (stepsP ((t.kids.take i).map placeT) s).2 xk i xkc (kidsC (stepsP ((t.kids.take i).map placeT) s).1))∧Hid (A<=a+21*((t.kids.take i).map T.nodes).sum∧Bn<=b+21*((t.kids.take i).map T.nodes).sum∧A=(stepsP ((t.kids.take i).map placeT) s).2.log.length∧Bn=(stepsP ((t.kids.take i).map placeT) s).2.log.length))
 case atStart=>exact⟨0,Q,some ⟨N+3,0,none⟩,0,_,pa,a,pc,na,b,nc,none,0,Nat.zero_le _,rfl,rfl,rfl,HI0,⟨by omega,by omega,HAL0.out.1,HAL0.out.2⟩⟩
 case round =>
  clear HI0
  clear W2
  obtain⟨i,R,sa,sc,css1,pa1,A,pc1,na1,Bn,nc1,xk,xkc,hi,rfl,rfl,rfl,HI,HAB⟩:=hrel
  by_cases hlt:i<yn
  ·have hR:=HZR.out wr HI.out.lf.fr
   obtain⟨yb,yo,rfl,hyb,k,hki,hkm,ka',kn',kc',va',vn',vc',oa',on',oc',ya',yc',css',hXk,c0,c1,c2,c3,c4,c5⟩:=hR.kidAt (i:=i) (by rw[HYN.out];exact hlt)
   have hsum:=sum_takeN t.kids i k hki
   obtain⟨si,hsi⟩:∃ si,(stepsP ((t.kids.take i).map placeT) s).2=si:=⟨_,rfl⟩
   obtain⟨yi,hyi⟩:∃ yi,(stepsP ((t.kids.take i).map placeT) s).1=yi:=⟨_,rfl⟩
   have HST:Hid (stepsP ((t.kids.take (i+1)).map placeT) s=(yi++[(placeT k si).1],(placeT k si).2)):=by
    show _=_
    rw[show t.kids.take (i+1)=t.kids.take i++[k] by rw[List.take_add_one,hki];rfl,steps_snoc,hsi,hyi]
   rw[hsi,hyi] at HI
   rw[hsi] at HAB
   have hpl:=HIH.out k hkm (XK Xs (.slice xk i xkc)) P U pa1 A pc1 na1 Bn nc1 tx si wr Q (.agg #[.bool k.leaf,.int .i64 k.page,.slice ka' kn' kc',.slice va' vn' vc',.slice oa' on' oc',.slice ya' k.kids.length yc']) (fun g q=>q.elim (fun q=>by have:=HYS.out.2.2 g q;have:=HI.out.lf.sz;omega) (fun q=>(HI.out.pg.2.1.lt g q).2)) HI.out.lf.pat HAB.out.2.2.1 HAB.out.2.2.2 ⟨ka',kn',kc',va',vn',vc',oa',on',oc',ya',yc',css',rfl,hXk⟩ (fun g q=>⟨by have:=(HQ.out g q).1;have:=HI.out.lf.sz;omega,fun e=>(HI.out.lf.hz g e).elim (HQ.out g q).2 (fun e=>by have:=(HQ.out g q).1;omega)⟩) (by have:=HAB.out;have:=HND.out;omega) (by have:=HAB.out;have:=HND.out;omega)
   have HAB2:Hid (∀ x y:Nat,x<=A+21*k.nodes->y<=Bn+21*k.nodes->x=(placeT k si).2.log.length->y=(placeT k si).2.log.length->x<=a+21*((t.kids.take (i+1)).map T.nodes).sum∧y<=b+21*((t.kids.take (i+1)).map T.nodes).sum∧x=(stepsP ((t.kids.take (i+1)).map placeT) s).2.log.length∧y=(stepsP ((t.kids.take (i+1)).map placeT) s).2.log.length):=fun x y h1 h2 h3 h4=>by rw[HST.out];have:=HAB.out;exact⟨by omega,by omega,h3,h4⟩
   have HNZ:Hid (Neat (placeT k si).1):=place_neat k (HKN.out k hkm) si
   unfold PlAns at hpl
   obtain⟨z,hz⟩:∃ z,(placeT k si).1=z:=⟨_,rfl⟩
   obtain⟨s3,hs3⟩:∃ s3,(placeT k si).2=s3:=⟨_,rfl⟩
   rw[hz,hs3] at hpl HST
   rw[hs3] at HAB2
   rw[hz] at HNZ
   obtain⟨kl,hkl⟩:∃ kl,k.leaf=kl:=⟨_,rfl⟩
   obtain⟨kp,hkp⟩:∃ kp,k.page=kp:=⟨_,rfl⟩
   obtain⟨kk,hkk⟩:∃ kk,k.kids.length=kk:=⟨_,rfl⟩
   rw[hkl] at hpl c0
   rw[hkp] at hpl c1
   rw[hkk] at hpl c5
   obtain⟨q0,q1,q2,q3,q4,q5⟩:=box6g HI.out.lf.k0
   have lN:=(HI.out.lf.lb (.inl rfl)).1
   have hsz:=HI.out.lf.sz
   clear hkl hkp hkk hz hs3 hsi hyi hR hXk hsum hki HAB
   go_upto_region 9 with (go_at_call 21;refine hpl.mono ?_;rintro e w9 ⟨v9,Q9,pa2,A2,pc2,na2,B2,nc2,rfl,⟨ka9,kn9,kc9,va9,vn9,vc9,oa9,on9,oc9,ya9,yc9,css9,rfl,hX9⟩,hp9,hf9,hz9,hq9,hA9,hB9,hA8,hB8⟩)
   have HI9:Hid (IkSt Xs w w9 N P U (.slice pa a pc) (.slice na b nc) #[.bool false,.int .i64 0,.slice ka 0 kc,.slice va 0 vc,.slice oa 0 oc,.slice (some ⟨yb,yo,none⟩) yn yc] Q (fun g=>R g∨Q9 g) yi i sa sc css1 pa2 A2 pc2 na2 B2 nc2 tx s3 xk i xkc (kidsC yi)):=HI.out.call (fun g q=>(HQ.out g q).1) hp9 hf9 hz9 hq9
   have HAB3:=HAB2.out A2 B2 hA9 hB9 hA8 hB8
   have HAB4:Hid (A2<=a+21*((t.kids.take (i+1)).map T.nodes).sum∧B2<=b+21*((t.kids.take (i+1)).map T.nodes).sum∧A2=(stepsP ((t.kids.take (i+1)).map placeT) s).2.log.length∧B2=(stepsP ((t.kids.take (i+1)).map placeT) s).2.log.length):=HAB3
   have HX9:Hid (QX w9 w9.heap.size Q9 z ka9 kn9 kc9 va9 vn9 vc9 oa9 on9 oc9 ya9 yc9 css9):=hX9
   have HYI:Hid (yi.length=i):=HI9.out.len
   have HQ9:Hid (∀ g,Q9 g->g<w9.heap.size):=fun g q=>(hq9 g q).2.2
   clear hX9 hp9 hf9 hz9 hq9 hA9 hB9 hA8 hB8 HAB3 HAB2 hpl q0 q1 q2 q3 q4 q5 c0 c1 c2 c3 c4 c5 lN HI
   have hal:=(Below.refl w9.heap.size w9).alloc (Nat.le_refl _) (.cells #[.bool z.leaf,.int .i64 z.page,.slice ka9 kn9 kc9,.slice va9 vn9 vc9,.slice oa9 on9 oc9,.slice ya9 z.kids.length yc9] 49)
   have kE:=heap_alloc_new w9 (.cells #[.bool z.leaf,.int .i64 z.page,.slice ka9 kn9 kc9,.slice va9 vn9 vc9,.slice oa9 on9 oc9,.slice ya9 z.kids.length yc9] 49)
   generalize w9.alloc (.cells #[.bool z.leaf,.int .i64 z.page,.slice ka9 kn9 kc9,.slice va9 vn9 vc9,.slice oa9 on9 oc9,.slice ya9 z.kids.length yc9] 49)=V at hal kE ⊢
   have HIV:Hid (IkSt Xs w V N P U (.slice pa a pc) (.slice na b nc) #[.bool false,.int .i64 0,.slice ka 0 kc,.slice va 0 vc,.slice oa 0 oc,.slice (some ⟨yb,yo,none⟩) yn yc] Q (fun g=>R g∨Q9 g) yi i sa sc css1 pa2 A2 pc2 na2 B2 nc2 tx s3 xk i xkc (kidsC yi)):=HI9.out.below hal
   have HXV:Hid (QX V V.heap.size Q9 z ka9 kn9 kc9 va9 vn9 vc9 oa9 on9 oc9 ya9 yc9 css9):=HX9.out.keep (fun g q hlt=>hal.block g hlt) (fun _ q=>q) hal.size
   obtain⟨E,hE⟩:∃ E,w9.heap.size=E:=⟨_,rfl⟩
   have HQE:Hid (∀ g,Q9 g->g<E):=fun g q=>hE ▸ HQ9.out g q
   have HKE:Hid (∀ g,(Value.slice sa i sc).ownBlock=some g->g<E):=fun g q=>hE ▸ (HI9.out.row.lt g q).2
   have HPE:Hid (∀ g,(Value.slice xk i xkc).ownBlock=some g->g<E):=fun g q=>by
    obtain⟨_,o9,_⟩:=HI9.out.pg
    exact hE ▸ (o9.lt g q).2
   have hEN:N+4<=E:=hE ▸ HI9.out.lf.sz
   rw[hE] at kE ⊢
   clear hal HI9 HX9 HQ9 hE hsz
   obtain⟨x0,x1,x2,x3,x4,x5⟩:=box6g kE
   have lE:=(Array.getElem?_eq_some_iff.1 kE).1
   have hal:=(Below.refl V.heap.size V).alloc (Nat.le_refl _) (.cells #[.bool z.leaf,.int .i64 z.page,.slice ka9 kn9 kc9,.slice va9 vn9 vc9,.slice oa9 on9 oc9,.slice ya9 z.kids.length yc9] 49)
   have HIA:Hid (IkSt Xs w (V.alloc (.cells #[.bool z.leaf,.int .i64 z.page,.slice ka9 kn9 kc9,.slice va9 vn9 vc9,.slice oa9 on9 oc9,.slice ya9 z.kids.length yc9] 49)) N P U (.slice pa a pc) (.slice na b nc) #[.bool false,.int .i64 0,.slice ka 0 kc,.slice va 0 vc,.slice oa 0 oc,.slice (some ⟨yb,yo,none⟩) yn yc] Q (fun g=>R g∨Q9 g) yi i sa sc css1 pa2 A2 pc2 na2 B2 nc2 tx s3 xk i xkc (kidsC yi)):=HIV.out.below hal
   have HOA:Hid ((V.alloc (.cells #[.bool z.leaf,.int .i64 z.page,.slice ka9 kn9 kc9,.slice va9 vn9 vc9,.slice oa9 on9 oc9,.slice ya9 z.kids.length yc9] 49)).ownsRow (N+3) 49 6 (.slice sa i sc) i (rowsC css1 i)):=HIA.out.row
   have hsA:N+3<=(V.alloc (.cells #[.bool z.leaf,.int .i64 z.page,.slice ka9 kn9 kc9,.slice va9 vn9 vc9,.slice oa9 on9 oc9,.slice ya9 z.kids.length yc9] 49)).heap.size:=by have:=HIA.out.lf.sz;omega
   have HAP:Hid (∀ (v8:Value) (w8:World),w8.ownsRow (N+3) 49 6 v8 (i+1) (rowsC css1 i++[.bool z.leaf,.int .i64 z.page,.slice ka9 kn9 kc9,.slice va9 vn9 vc9,.slice oa9 on9 oc9,.slice ya9 z.kids.length yc9])->(V.alloc (.cells #[.bool z.leaf,.int .i64 z.page,.slice ka9 kn9 kc9,.slice va9 vn9 vc9,.slice oa9 on9 oc9,.slice ya9 z.kids.length yc9] 49)).grownBy w8 (Value.slice sa i sc).ownBlock->(v8.ownBlock=(Value.slice sa i sc).ownBlock∨∀ g,v8.ownBlock=some g->(V.alloc (.cells #[.bool z.leaf,.int .i64 z.page,.slice ka9 kn9 kc9,.slice va9 vn9 vc9,.slice oa9 on9 oc9,.slice ya9 z.kids.length yc9] 49)).heap.size<=g)->∃ sa2 sc2,v8=.slice sa2 (i+1) sc2∧w8.heap[E]?=some (.cells #[.bool z.leaf,.int .i64 z.page,.slice ka9 kn9 kc9,.slice va9 vn9 vc9,.slice oa9 on9 oc9,.slice ya9 z.kids.length yc9] 49)∧Hid (QX w8 w8.heap.size Q9 z ka9 kn9 kc9 va9 vn9 vc9 oa9 on9 oc9 ya9 yc9 css9)∧Hid (IkSt Xs w w8 N P U (.slice pa a pc) (.slice na b nc) #[.bool false,.int .i64 0,.slice ka 0 kc,.slice va 0 vc,.slice oa 0 oc,.slice (some ⟨yb,yo,none⟩) yn yc] Q (fun g=>R g∨Q9 g) (yi++[z]) (i+1) sa2 sc2 (fun j=>if j<i then css1 j else [.bool z.leaf,.int .i64 z.page,.slice ka9 kn9 kc9,.slice va9 vn9 vc9,.slice oa9 on9 oc9,.slice ya9 z.kids.length yc9]) pa2 A2 pc2 na2 B2 nc2 tx s3 xk i xkc (kidsC yi))):=fun v8 w8 h1 h2 h3=>by
    obtain⟨sa2,sc2,rfl⟩:=own_shape h1
    have hf8:Fr (fun g=>(Value.slice sa i sc).ownBlock=some g) (V.alloc (.cells #[.bool z.leaf,.int .i64 z.page,.slice ka9 kn9 kc9,.slice va9 vn9 vc9,.slice oa9 on9 oc9,.slice ya9 z.kids.length yc9] 49)) w8:=Fr.of_grown h2 (fun g e=>e)
    have hXA:=HXV.out.keep (fun g q hlt=>hal.block g hlt) (fun _ q=>q) hal.size
    have hX8:=hXA.keep (w':=w8) (fun g q hlt=>hf8.block g hlt (fun e=>(HIA.out.hR g (.inr q)).2.2.2.1 e)) (fun _ q=>q) hf8.size
    refine⟨sa2,sc2,rfl,(hf8.block E (Nat.lt_of_lt_of_le lE hal.size) (fun e=>by have:=HKE.out E e;omega)).trans ((hal.block E lE).trans kE),hX8,HIA.out.add (NodeQ.keep (fun _ _ _=>rfl) (fun g q=>.inr q) (Nat.le_refl _) _ _ hXA.mk') h1 h2 h3⟩
   go_upto_region 10 with (at_builtin;refine wpList_append_ownD _ rfl _ _ 47 rfl (N+3) 49 il _ 6 112 Tryz.underlying47 hil hl0 hl1 hl2 rfl (by decide) (.slice sa i sc) i _ rfl HOA.out ⟨V.heap.size,0,none⟩ 1 1 [.bool z.leaf,.int .i64 z.page,.slice ka9 kn9 kc9,.slice va9 vn9 vc9,.slice oa9 on9 oc9,.slice ya9 z.kids.length yc9] rfl rfl (cell_six_newP _ _ _ _ _ _ _ _) (by simp[Value.oneCell']) (by unfold maxLen;omega) (by omega) hsA ?_;intro v8 w8 h1 h2 h3;obtain⟨sa2,sc2,rfl,kE8,HX8,HI8⟩:=HAP.out v8 w8 h1 h2 h3;clear h1 h2 h3)
   clear HAP HIA HOA hal kE x0 x1 x2 x3 x4 x5 lE HIV HXV hsA
   obtain⟨x0,x1,x2,x3,x4,x5⟩:=box6g kE8
   have lE:=(Array.getElem?_eq_some_iff.1 kE8).1
   have hlow:=l3Low_neat w8.heap.size z HNZ.out w8 ka9 kn9 kc9 va9 vn9 vc9 oa9 on9 oc9 ya9 yc9 css9 (Nat.le_refl _) HX8.out.nx
   go_upto_if 42 with fail
   go_cut [9] (fun sv wx=>∃ sp:ByteArray,sv=.string sp∧Hid (Below w8.heap.size w8 wx)∧Hid (sp=if i=0 then ByteArray.empty else z.low))
   case first =>
    by_cases h0:i=0
    ·subst h0
     go_wp2_with fail
     go_meet
     exact⟨_,rfl,Below.refl _ _,rfl⟩
    ·go_wp2_with fail
     refine hlow.mono ?_
     rintro e w10 ⟨rfl,hb10⟩
     have HB10:Hid (Below w8.heap.size w8 w10):=hb10
     clear hb10
     go_wp2_with fail
     go_meet
     exact⟨_,rfl,HB10,by show _=_;rw[if_neg h0]⟩
   case rest =>
    obtain⟨sp,rfl,HBC,HSP⟩:=hcut
    have hbc:=HBC.out
    have HIC:Hid (IkSt Xs w wc N P U (.slice pa a pc) (.slice na b nc) #[.bool false,.int .i64 0,.slice ka 0 kc,.slice va 0 vc,.slice oa 0 oc,.slice (some ⟨yb,yo,none⟩) yn yc] Q (fun g=>R g∨Q9 g) (yi++[z]) (i+1) sa2 sc2 (fun j=>if j<i then css1 j else [.bool z.leaf,.int .i64 z.page,.slice ka9 kn9 kc9,.slice va9 vn9 vc9,.slice oa9 on9 oc9,.slice ya9 z.kids.length yc9]) pa2 A2 pc2 na2 B2 nc2 tx s3 xk i xkc (kidsC yi)):=HI8.out.below hbc
    have kEC:wc.heap[E]?=some (.cells #[.bool z.leaf,.int .i64 z.page,.slice ka9 kn9 kc9,.slice va9 vn9 vc9,.slice oa9 on9 oc9,.slice ya9 z.kids.length yc9] 49):=(hbc.block E lE).trans kE8
    clear hbc HBC HI8 kE8 x0 x1 x2 x3 x4 x5 lE hlow HX8
    obtain⟨x0,x1,x2,x3,x4,x5⟩:=box6g kEC
    have lE:=(Array.getElem?_eq_some_iff.1 kEC).1
    obtain⟨kp2,po1,_⟩:=HIC.out.pg
    obtain⟨e0,e1,e2,e3,e4,e5,e6,e7,e8⟩:=box9P kp2
    have lp:N+2<wc.heap.size:=(Array.getElem?_eq_some_iff.1 kp2).1
    have hal:=(Below.refl wc.heap.size wc).alloc (Nat.le_refl _) (.cells #[.string sp,.int .i64 z.page] 96)
    have HIA:Hid (IkSt Xs w (wc.alloc (.cells #[.string sp,.int .i64 z.page] 96)) N P U (.slice pa a pc) (.slice na b nc) #[.bool false,.int .i64 0,.slice ka 0 kc,.slice va 0 vc,.slice oa 0 oc,.slice (some ⟨yb,yo,none⟩) yn yc] Q (fun g=>R g∨Q9 g) (yi++[z]) (i+1) sa2 sc2 (fun j=>if j<i then css1 j else [.bool z.leaf,.int .i64 z.page,.slice ka9 kn9 kc9,.slice va9 vn9 vc9,.slice oa9 on9 oc9,.slice ya9 z.kids.length yc9]) pa2 A2 pc2 na2 B2 nc2 tx s3 xk i xkc (kidsC yi)):=HIC.out.below hal
    have HOA:Hid ((wc.alloc (.cells #[.string sp,.int .i64 z.page] 96)).ownsRow (N+4) 96 2 (.slice xk i xkc) i (rowsOf kidCells (kidsC yi))):=owns_below po1 hal
    have hsl:=HIA.out.lf.sz
    have HAP:Hid (∀ (v8:Value) (w11:World),w11.ownsRow (N+4) 96 2 v8 (i+1) (rowsOf kidCells (kidsC yi)++[.string sp,.int .i64 z.page])->(wc.alloc (.cells #[.string sp,.int .i64 z.page] 96)).grownBy w11 (Value.slice xk i xkc).ownBlock->(v8.ownBlock=(Value.slice xk i xkc).ownBlock∨∀ g,v8.ownBlock=some g->(wc.alloc (.cells #[.string sp,.int .i64 z.page] 96)).heap.size<=g)->∃ a8 c8,v8=.slice a8 (i+1) c8∧w11.heap[N+2]?=some (.cells #[.int .i64 2,.int .i64 tx,.int .i64 0,.int .i64 0,.int .i64 0,.slice xk i xkc,.slice none 0 0,.int .i64 0,.string ⟨#[]⟩] 93)∧Hid (IkSt Xs w (w11.setCell ⟨N+2,5,none⟩ (.slice a8 (i+1) c8)) N P U (.slice pa a pc) (.slice na b nc) #[.bool false,.int .i64 0,.slice ka 0 kc,.slice va 0 vc,.slice oa 0 oc,.slice (some ⟨yb,yo,none⟩) yn yc] Q (fun g=>R g∨Q9 g) (yi++[z]) (i+1) sa2 sc2 (fun j=>if j<i then css1 j else [.bool z.leaf,.int .i64 z.page,.slice ka9 kn9 kc9,.slice va9 vn9 vc9,.slice oa9 on9 oc9,.slice ya9 z.kids.length yc9]) pa2 A2 pc2 na2 B2 nc2 tx s3 a8 (i+1) c8 (kidsC (yi++[z])))):=fun v8 w11 h1 h2 h3=>by
     obtain⟨a8,c8,rfl⟩:=own_shape h1
     refine⟨a8,c8,rfl,(h2.block (N+2) (by have:=(Array.getElem?_eq_some_iff.1 HIA.out.pg.1).1;exact this) (fun e=>by have:=(HOA.out.lt _ e.symm).1;omega)).trans HIA.out.pg.1,HIA.out.addK HOA.out (by rw[kids_snocC,HYI.out,<-HSP.out];simpa[rowsOf,kidCells] using h1) h2 h3⟩
    clear po1 hal HIC kp2
    go_wp2_with (at_builtin;refine wpList_append_ownD _ rfl _ _ 90 rfl (N+4) 96 ik _ 2 24 Tryz.underlying90 hik hi0 hi1 hi2 rfl (by decide) (.slice xk i xkc) i _ rfl HOA.out ⟨wc.heap.size,0,none⟩ 1 1 [.string sp,.int .i64 z.page] rfl rfl (cell_two_newT _ _ _ _) (by simp[Value.oneCell']) (by unfold maxLen;omega) (by omega) hsl ?_;intro v8 w11 h1 h2 h3;obtain⟨a8,c8,rfl,kp8,HI11⟩:=HAP.out v8 w11 h1 h2 h3;obtain⟨z0,z1,z2,z3,z4,z5,z6,z7,z8⟩:=box9P kp8;have fz:=thawT kp8;have lz:=(Array.getElem?_eq_some_iff.1 kp8).1;clear h1 h2 h3)
    have HI12:Hid (IkSt Xs w (w11.setCell ⟨N+2,5,none⟩ (.slice a8 (i+1) c8)) N P U (.slice pa a pc) (.slice na b nc) #[.bool false,.int .i64 0,.slice ka 0 kc,.slice va 0 vc,.slice oa 0 oc,.slice (some ⟨yb,yo,none⟩) yn yc] Q (fun g=>R g∨Q9 g) (stepsP ((t.kids.take (i+1)).map placeT) s).1 (i+1) sa2 sc2 (fun j=>if j<i then css1 j else [.bool z.leaf,.int .i64 z.page,.slice ka9 kn9 kc9,.slice va9 vn9 vc9,.slice oa9 on9 oc9,.slice ya9 z.kids.length yc9]) pa2 A2 pc2 na2 B2 nc2 tx (stepsP ((t.kids.take (i+1)).map placeT) s).2 a8 (i+1) c8 (kidsC (stepsP ((t.kids.take (i+1)).map placeT) s).1)):=by show IkSt _ _ _ _ _ _ _ _ _ _ _ _ _ _ _ _ _ _ _ _ _ _ _ _ _ _ _ _;rw[HST.out];exact HI11.out
    go_wp2_with fail
    go_roundg (yn - (i+1))
    case measure=>omega
    case rel=>exact⟨i+1,_,sa2,sc2,_,pa2,A2,pc2,na2,B2,nc2,a8,c8,by omega,rfl,by go_num,rfl,HI12,HAB4⟩
  ·obtain rfl:i=yn:=by omega
   have HTK:Hid (t.kids.take i=t.kids):=List.take_of_length_le (by rw[HYN.out];exact Nat.le_refl _)
   obtain⟨ys,hys⟩:∃ ys,(stepsP (t.kids.map placeT) s).1=ys:=⟨_,rfl⟩
   obtain⟨st,hst⟩:∃ st,(stepsP (t.kids.map placeT) s).2=st:=⟨_,rfl⟩
   obtain⟨ob,hob⟩:∃ ob:List Int × PSt,ob=([],st):=⟨_,rfl⟩
   have HOB:Hid (ob=([],st)∧(stepsP (t.kids.map placeT) s).1=ys∧(stepsP (t.kids.map placeT) s).2=st):=⟨hob,hys,hst⟩
   have HI1:Hid (IkSt Xs w wr N P U (.slice pa a pc) (.slice na b nc) #[.bool false,.int .i64 0,.slice ka 0 kc,.slice va 0 vc,.slice oa 0 oc,.slice ya i yc] Q R ys i sa sc css1 pa1 A pc1 na1 Bn nc1 tx ob.2 xk i xkc (kidsC ys)):=by
    have:=HI.out
    rw[HTK.out,hys,hst] at this
    rw[hob]
    exact this
   rw[HTK.out,hst] at HAB
   have HALB:Hid (A=ob.2.log.length∧Bn=ob.2.log.length):=by rw[hob];exact HAB.out.2.2
   have hAA:A<=1000000:=by have:=HAB.out;have:=HND.out;omega
   have hBB:Bn<=1000000:=by have:=HAB.out;have:=HND.out;omega
   obtain⟨q0,q1,q2,q3,q4,q5⟩:=box6g HI1.out.lf.k0
   have f0:=thawT HI1.out.lf.k0
   have lN:=(HI1.out.lf.lb (.inl rfl)).1
   have hsz:=HI1.out.lf.sz
   have HI5:Hid (IkSt Xs w (wr.setCell ⟨N,5,none⟩ (.slice sa i sc)) N P U (.slice pa a pc) (.slice na b nc) #[.bool false,.int .i64 0,.slice ka 0 kc,.slice va 0 vc,.slice oa 0 oc,.slice sa i sc] Q R ys i sa sc css1 pa1 A pc1 na1 Bn nc1 tx ob.2 xk i xkc (kidsC ys)):=HI1.out.box 5 (.slice sa i sc)
   have hS5:(wr.setCell ⟨N,5,none⟩ (.slice sa i sc)).heap.size=wr.heap.size:=setT_size _ _ _ _
   have hE:World.ownsRow _ _ _ _ _ _ _:=emptyE (wr.setCell ⟨N,5,none⟩ (.slice sa i sc)) 2 1 (N+4) (by rw[hS5];exact hsz)
   rw[hS5] at hE
   have bA:=(Below.refl _ (wr.setCell ⟨N,5,none⟩ (.slice sa i sc))).alloc (Nat.le_refl _) (.cells #[] 2)
   have HIA:Hid (IkSt Xs w ((wr.setCell ⟨N,5,none⟩ (.slice sa i sc)).alloc (.cells #[] 2)) N P U (.slice pa a pc) (.slice na b nc) #[.bool false,.int .i64 0,.slice ka 0 kc,.slice va 0 vc,.slice oa 0 oc,.slice sa i sc] Q R ys i sa sc css1 pa1 A pc1 na1 Bn nc1 tx ob.2 xk i xkc (kidsC ys)):=HI5.out.below bA
   have hsrc:SrcAt ((wr.setCell ⟨N,5,none⟩ (.slice sa i sc)).alloc (.cells #[] 2)) ((wr.setCell ⟨N,5,none⟩ (.slice sa i sc)).alloc (.cells #[] 2)).heap.size 1 0 (.slice oa 0 oc) (rowsOf intCells ([]:List Int)):=by
    have h9:=(HZR.out _ HIA.out.lf.fr).nx.over
    rw[HKY.out.2.2] at h9
    exact srcRows (fun _=>rfl) (one_int _) h9 (by omega)
   have hsA:N+4<=((wr.setCell ⟨N,5,none⟩ (.slice sa i sc)).alloc (.cells #[] 2)).heap.size:=HIA.out.lf.sz
   have HZW:Hid (∀ g,ZP P U (.slice pa1 A pc1) (.slice na1 Bn nc1) g->g<wr.heap.size):=fun g e=>HI1.out.lf.pat.lt e
   have HI5':=HI5
   clear hys hst hob HI HI1 HI5
   go_upto_region 16 with (at_builtin;refine wpList_append_S _ rfl _ _ 25 rfl (N+4) 2 ii _ 1 8 Tryz.underlying25 hii hj0 hj1 hj2 rfl (by decide) (by decide) (.slice (some ⟨wr.heap.size,0,none⟩) 0 0) 0 [] rfl hE (by omega) _ _ 0 (rowsOf intCells ([]:List Int)) rfl hsrc hsA ?_;intro v6 w6 h1 h2 h3)
   have hO6:w6.ownsRow (N+4) 2 1 v6 0 (rowsOf intCells ob.1):=by rw[HOB.out.1];exact h1
   have hl6:∀ g,v6.ownBlock=some g->wr.heap.size<=g:=fun g e=>by
    rcases h3 with h3 | h3
    ·rw[h3] at e
     have:wr.heap.size=g:=Option.some.inj e
     omega
    ·have:=h3 g e
     have:=bA.size
     omega
   obtain⟨xa,xc,rfl⟩:=own_shape hO6
   have b6:Below ((wr.setCell ⟨N,5,none⟩ (.slice sa i sc)).heap.size) (wr.setCell ⟨N,5,none⟩ (.slice sa i sc)) w6:=bA.trans ((Fr.of_grown (S:=fun g=>g=wr.heap.size) h2 (fun g e=>(Option.some.inj e).symm)).below bA.size (fun g e=>by omega))
   have HIR:Hid (IkSt Xs w w6 N P U (.slice pa a pc) (.slice na b nc) #[.bool false,.int .i64 0,.slice ka 0 kc,.slice va 0 vc,.slice oa 0 oc,.slice sa i sc] Q R ys i sa sc css1 pa1 A pc1 na1 Bn nc1 tx ob.2 xk i xkc (kidsC ys)):=by
    have hf6:Fr (fun g=>g=wr.heap.size) ((wr.setCell ⟨N,5,none⟩ (.slice sa i sc)).alloc (.cells #[] 2)) w6:=Fr.of_grown h2 (fun g e=>(Option.some.inj e).symm)
    exact HI5'.out.below b6
   have HL9:Hid (LfSt Xs w w6 N P U (.slice pa a pc) (.slice na b nc) #[.bool false,.int .i64 0,.slice ka 0 kc,.slice va 0 vc,.slice oa 0 oc,.slice sa i sc] (.slice xa 0 xc) 0 ob.1 pa1 A pc1 na1 Bn nc1 tx ob.2):=HIR.out.lf.newOv hO6 (fun g e e'=>by have:=hl6 g e;have:=HZW.out g (.inr (.inr (.inr e')));omega) |>.less (fun g q _=>.inl q)
   have HP:Hid (PgSt w6 N 2 tx xk i xkc none 0 0 (kidsC ys) []):=HIR.out.pg
   clear h1 h2 h3 hE hS5 bA HIA hsrc hsA HZW hO6 hl6 b6 q0 q1 q2 q3 q4 q5 f0 lN hsz HI5'
   obtain⟨q0,q1,q2,q3,q4,q5⟩:=box6g HL9.out.k0
   have lN:=(HL9.out.lb (.inl rfl)).1
   go_wp2_with fail
   go_loopw [11] (fun iv wq=>iv=.int .i64 0∧wq=w6) (fun _ _=>0)
   case atStart=>exact⟨rfl,rfl⟩
   case round =>
    obtain⟨rfl,rfl⟩:=hrel
    go_upto_region 26 with fail
    clear q0 q1 q2 q3 q4 q5 lN
    have sW0:=HL9.out.sz
    obtain⟨q0,q1,q2,q3,q4,q5⟩:=box6g HL9.out.k0
    have fN:=thawT HL9.out.k0
    have lN:=(HL9.out.lb (.inl rfl)).1
    have HZ9:Hid (∀ g,ZP P U (.slice pa1 A pc1) (.slice na1 Bn nc1) g->g<wr.heap.size):=fun g e=>HL9.out.pat.lt e
    have HL1:Hid (LfSt Xs w (wr.setCell ⟨N,4,none⟩ (.slice xa 0 xc)) N P U (.slice pa a pc) (.slice na b nc) #[.bool false,.int .i64 0,.slice ka 0 kc,.slice va 0 vc,.slice xa 0 xc,.slice sa i sc] (.slice xa 0 xc) 0 ob.1 pa1 A pc1 na1 Bn nc1 tx ob.2):=HL9.out.box 4 (.slice xa 0 xc)
    have HP1:Hid (PgSt (wr.setCell ⟨N,4,none⟩ (.slice xa 0 xc)) N 2 tx xk i xkc none 0 0 (kidsC ys) []):=HP.out.st HL9.out.k0 (by decide) (by decide) (by omega) _
    have HF1:Hid (Fr (fun g=>g=N∨g=N+1∨g=N+2∨ZP P U (.slice pa1 A pc1) (.slice na1 Bn nc1) g) wr (wr.setCell ⟨N,4,none⟩ (.slice xa 0 xc))):=(fr_setT wr N 4 (.slice xa 0 xc)).weak (fun g e=>.inl e)
    clear HP
    go_upto_region 27 with fail
    generalize wr.setCell ⟨N,4,none⟩ (.slice xa 0 xc)=W1 at HL1 HP1 HF1 ⊢
    clear q0 q1 q2 q3 q4 q5 fN lN
    obtain⟨q0,q1,q2,q3,q4,q5⟩:=box6g HL1.out.k0
    have lN:=(HL1.out.lb (.inl rfl)).1
    go_upto_region 29 with fail
    have HL2:=HL1
    have HP2:=HP1
    have HF2:=HF1
    clear q0 q1 q2 q3 q4 q5 lN HL1 HP1 HF1
    revert HL2 HP2 HF2
    generalize W1=W2
    intro HL2 HP2 HF2
    have hnx:=l4Next_any Xs P U A Bn _ _ tx ob.2 W2 HL2.out.pat
    obtain⟨y,hy⟩:∃ y,(nxtP ob.2).1=y:=⟨_,rfl⟩
    obtain⟨s1,hs2⟩:∃ s1,(nxtP ob.2).2=s1:=⟨_,rfl⟩
    obtain⟨pc9,hpc9⟩:∃ pc9,PgC.branch (kidsC ys)=pc9:=⟨_,rfl⟩
    have HPC9:Hid (PgC.branch (kidsC ys)=pc9):=hpc9
    obtain⟨s2,hs3⟩:∃ s2:PSt,{ s1 with log:=s1.log++[(y,pc9)] }=s2:=⟨_,rfl⟩
    have HNX:Hid ((nxtP ob.2).1=y∧{ (nxtP ob.2).2 with log:=(nxtP ob.2).2.log++[(y,pc9)] }=s2∧s2.log=ob.2.log++[(y,pc9)]):=⟨hy,by rw[hs2];exact hs3,by rw[<-hs3];show s1.log++_=_;rw[<-hs2,nxt_log]⟩
    have HS3:Hid ({ s1 with log:=s1.log++[(y,pc9)] }=s2):=hs3
    have hyr:0<=y∧y<=1000:=by rw[<-hy];exact nxt_range _
    obtain⟨hy0,hy1⟩:=hyr
    rw[hy,hs2] at hnx
    clear hy hs2 hs3 hpc9
    go_upto_region 30 with (go_at_call 46;refine hnx.mono ?_;rintro e w9 ⟨rfl,hp9,hf9⟩;have hL9:=HL2.out.step hp9 (hf9.weak (fun g e=>e.elim .inl (fun e=>.inr (.inl e)))) (fun g e=>.inl e);have HL9':Hid (LfSt Xs w w9 N P U (.slice pa a pc) (.slice na b nc) #[.bool false,.int .i64 0,.slice ka 0 kc,.slice va 0 vc,.slice xa 0 xc,.slice sa i sc] (.slice xa 0 xc) 0 ob.1 pa1 A pc1 na1 Bn nc1 tx s2):=HS3.out ▸ hL9.log _;have HP9:Hid (PgSt w9 N 2 tx xk i xkc none 0 0 (kidsC ys) []):=HP2.out.zp HL2.out (hf9.weak (fun g e=>e.elim .inl (fun e=>.inr (.inl e))));have HF9:Hid (Fr (fun g=>g=N∨g=N+1∨g=N+2∨ZP P U (.slice pa1 A pc1) (.slice na1 Bn nc1) g) wr w9):=HF2.out.trans (hf9.weak (fun g e=>.inr (.inr (.inr (e.elim .inl (fun e=>.inr (.inl e)))))));obtain⟨q0,q1,q2,q3,q4,q5⟩:=box6g hL9.k0;have fN:=thawT hL9.k0;have lN:=(hL9.lb (.inl rfl)).1;clear hp9 hf9 hL9)
    have HL3:Hid (LfSt Xs w (w9.setCell ⟨N,1,none⟩ (.int .i64 y)) N P U (.slice pa a pc) (.slice na b nc) #[.bool false,.int .i64 y,.slice ka 0 kc,.slice va 0 vc,.slice xa 0 xc,.slice sa i sc] (.slice xa 0 xc) 0 ob.1 pa1 A pc1 na1 Bn nc1 tx s2):=HL9'.out.box 1 (.int .i64 y)
    have HP3:Hid (PgSt (w9.setCell ⟨N,1,none⟩ (.int .i64 y)) N 2 tx xk i xkc none 0 0 (kidsC ys) []):=HP9.out.st HL9'.out.k0 (by decide) (by decide) (by omega) _
    have HF3:Hid (Fr (fun g=>g=N∨g=N+1∨g=N+2∨ZP P U (.slice pa1 A pc1) (.slice na1 Bn nc1) g) wr (w9.setCell ⟨N,1,none⟩ (.int .i64 y))):=HF9.out.trans ((fr_setT w9 N 1 (.int .i64 y)).weak (fun g e=>.inl e))
    generalize w9.setCell ⟨N,1,none⟩ (.int .i64 y)=W at HL3 HP3 HF3 ⊢
    clear q0 q1 q2 q3 q4 q5 fN lN HL2 HP2 HF2 HL9' HP9 HF9 hnx
    have HPW:Hid (PAt Xs W P U (.slice pa1 A pc1) A (.slice na1 Bn nc1) Bn tx s2):=HL3.out.pat
    have kK:W.heap[N+2]?=some (.cells #[.int .i64 2,.int .i64 tx,.int .i64 0,.int .i64 0,.int .i64 0,.slice xk i xkc,.slice none 0 0,.int .i64 0,.string ⟨#[]⟩] 93):=HP3.out.1
    have lKW:N+2<W.heap.size:=(Array.getElem?_eq_some_iff.1 kK).1
    obtain⟨pm9,hpm9⟩:∃ pm9,pm9=y:=⟨_,rfl⟩
    have HNW:Hid (s2.log[A]?=some (pm9,pc9)∧PgIs Xs W tx [.int .i64 2,.int .i64 tx,.int .i64 0,.int .i64 0,.int .i64 0,.slice xk i xkc,.slice none 0 0,.int .i64 0,.string ⟨#[]⟩] pc9):=⟨by rw[HNX.out.2.2,HALB.out.1,hpm9];simp,by rw[<-HPC9.out];exact PgSt.is (c:=PgC.branch (kidsC ys)) HP3.out rfl rfl HYS.out.2.2⟩
    clear hpm9
    go_cut [] (fun wx=>∃ (pa2:Option Addr) (pc2:Nat),Hid (PAt Xs wx P U (.slice pa2 (A+1) pc2) (A+1) (.slice na1 Bn nc1) Bn tx s2∧Fr (fun g=>g=P∨(Value.slice pa1 A pc1).ownBlock=some g) W wx∧∀ g,(Value.slice pa2 (A+1) pc2).ownBlock=some g->(Value.slice pa1 A pc1).ownBlock=some g∨W.heap.size<=g))
    case first =>
      have bV0:=(Below.refl W.heap.size W).drew
      refine wp_region_noPanic ?_
      refine wp_region_held_drew (S:=(fun _:World=>True)) (by kernel_rfl) (trivial) (fun hHeld=>?_)
      clear hHeld
      generalize W.drew=V at bV0 ⊢
      have hHeld:=trivial
      have HPV:Hid (PAt Xs V P U (.slice pa1 A pc1) A (.slice na1 Bn nc1) Bn tx s2):=HPW.out.below bV0
      have HFV:Hid (Fr (fun g=>g=P∨(Value.slice pa1 A pc1).ownBlock=some g) W V):=Fr.of_below bV0
      obtain⟨css,hrV,hcl,hct⟩:=HPV.out.pgs
      have HCS:Hid (css.length=A∧∀ (i:Nat) cs,css[i]?=some cs->∃ n c,s2.log[i]?=some (n,c)∧PgIs Xs V tx cs c):=⟨hcl,hct⟩
      have HNC:Hid (PgIs Xs V tx [.int .i64 2,.int .i64 tx,.int .i64 0,.int .i64 0,.int .i64 0,.slice xk i xkc,.slice none 0 0,.int .i64 0,.string ⟨#[]⟩] pc9):=HNW.out.2.below bV0
      have HNM:Hid (s2.log[A]?=some (pm9,pc9)):=HNW.out.1
      clear hcl hct
      have HRP:Hid (V.ownsRow 0 93 9 (.slice pa1 A pc1) A css.flatten):=hrV
      clear hrV
      obtain⟨q0,q1,q2,q3,q4⟩:=box5P HPV.out.box
      have lP:P<V.heap.size:=HPV.out.lt (.inl rfl)
      have kV:V.heap[N+2]?=some (.cells #[.int .i64 2,.int .i64 tx,.int .i64 0,.int .i64 0,.int .i64 0,.slice xk i xkc,.slice none 0 0,.int .i64 0,.string ⟨#[]⟩] 93):=(bV0.block (N+2) lKW).trans kK
      obtain⟨e0,e1,e2,e3,e4,e5,e6,e7,e8⟩:=box9P kV
      have lKV:N+2<V.heap.size:=(Array.getElem?_eq_some_iff.1 kV).1
      clear bV0
      refine tY 0 (.pointer (some ⟨P,0,none⟩)) .z (by kernel_rfl) (by rfl) ?_ ‹_› ?_
      ·intro wq hSw;go_simp
      refine tY 1 (.pointer (some ⟨P,0,none⟩)) (.s .z) (by kernel_rfl) (by rfl) ?_ ‹_› ?_
      ·intro wq hSw;go_simp
      refine tY 2 (.pointer (some ⟨P,0,none⟩)) (.s (.s .z)) (by kernel_rfl) (by rfl) ?_ ‹_› ?_
      ·intro wq hSw;go_simp
      refine tY 3 (.pointer (some ⟨P,2,none⟩)) (.s (.s (.s .z))) (by kernel_rfl) (by rfl) ?_ ‹_› ?_
      ·intro wq hSw;go_simp
      try simp only[Act.put,q1,q2,q3]
      refine wpAnyH_ready (rs:=[4,5]) (by kernel_rfl) (by simp) ?_
      refine rdA (.s (.s (.s (.s .z)))) (fun K hK=>?_) ?_
      rotate_left 1
      refine rdA (.f .z) (fun K hK=>?_) ?_
      rotate_left 1
      exact AllReadyH.nil
      ·go_simp
       refine hK.out _ _ (trivial) (fun hHeld=>?_)
       clear hK K
       try simp only[Act.put,q1,q2,q3]
       refine wpAnyH_ready (rs:=[5]) (by kernel_rfl) (by simp) ?_
       refine rdA (.f .z) (fun K hK=>?_) AllReadyH.nil
       go_simp
       refine hK.out _ _ (trivial) (fun hHeld=>?_)
       clear hK K
       try simp only[Act.put,q1,q2,q3]
       refine wpAnyH_ready (rs:=[6]) (by kernel_rfl) (by simp) ?_
       refine rdA (.f (.s .z)) (fun K hK=>?_) AllReadyH.nil
       go_simp
       have hal2:=(Below.refl V.heap.size V).alloc (Nat.le_refl _) (.cells #[.int .i64 2,.int .i64 tx,.int .i64 0,.int .i64 0,.int .i64 0,.slice xk i xkc,.slice none 0 0,.int .i64 0,.string ⟨#[]⟩] 93)
       have HPA:Hid (PAt Xs (V.alloc (.cells #[.int .i64 2,.int .i64 tx,.int .i64 0,.int .i64 0,.int .i64 0,.slice xk i xkc,.slice none 0 0,.int .i64 0,.string ⟨#[]⟩] 93)) P U (.slice pa1 A pc1) A (.slice na1 Bn nc1) Bn tx s2):=HPV.out.below hal2
       obtain⟨z0,z1,z2,z3,z4⟩:=box5P HPA.out.box
       have lPA:P<(V.alloc (.cells #[.int .i64 2,.int .i64 tx,.int .i64 0,.int .i64 0,.int .i64 0,.slice xk i xkc,.slice none 0 0,.int .i64 0,.string ⟨#[]⟩] 93)).heap.size:=HPA.out.lt (.inl rfl)
       refine hK.out _ _ (trivial) (fun hHeld=>?_)
       clear hK K
       try simp only[Act.put,q1,q2,q3]
       refine wpAnyH_ready (rs:=[7]) (by kernel_rfl) (by simp) ?_
       refine rdA (.f (.s (.s .z))) (fun K hK=>?_) AllReadyH.nil
       have hrow:=owns_below HRP.out hal2
       refine step_append_T rfl _ _ 30 rfl 0 93 ip _ 9 112 Tryz.underlying30 hip hp0 hp1 hp2 rfl (by decide) (.slice pa1 A pc1) A css.flatten (by simp[Act.eval]) hrow ⟨V.heap.size,0,none⟩ 1 1 [.int .i64 2,.int .i64 tx,.int .i64 0,.int .i64 0,.int .i64 0,.slice xk i xkc,.slice none 0 0,.int .i64 0,.string ⟨#[]⟩] (by simp[Act.eval]) rfl (cell_nine_newP _ _ _ _ _ _ _ _ _ _ _) (by simp[Value.oneCell']) (by unfold maxLen;omega) (by omega) (Nat.zero_le _) ?_
       intro u7 w7 hown7 hgr7 hlies7
       obtain⟨g7,c7',rfl⟩:=own_shape hown7
       have hb7:w7.heap[P]?=_:=(hgr7.block P lPA (fun e=>HPA.out.apart.1 e.symm)).trans HPA.out.box
       obtain⟨t0,t1,t2,t3,t4⟩:=box5P hb7
       have f7:=thawT hb7
       have l7:P<w7.heap.size:=(Array.getElem?_eq_some_iff.1 hb7).1
       have HM:Hid (PAt Xs (w7.setCell ⟨P,2,none⟩ (.slice g7 (A+1) c7')) P U (.slice g7 (A+1) c7') (A+1) (.slice na1 Bn nc1) Bn tx s2∧Fr (fun g=>g=P∨(Value.slice pa1 A pc1).ownBlock=some g) W (w7.setCell ⟨P,2,none⟩ (.slice g7 (A+1) c7'))∧∀ g,(Value.slice g7 (A+1) c7').ownBlock=some g->(Value.slice pa1 A pc1).ownBlock=some g∨W.heap.size<=g):=by
        refine⟨HPA.out.pushP (n:=0) HCS.out.1 (pgs_fr (S:=fun _=>False) HCS.out.2 (Fr.of_below hal2) (fun _ e=>e.elim)) HNM.out (HNC.out.below hal2) hown7 hgr7,(HFV.out.trans ((Fr.of_below hal2).trans (Fr.of_grown hgr7 (fun g e=>.inr e)))).trans ((fr_setT w7 P 2 _).weak (fun g e=>.inl e)),fun g e=>?_⟩
        rcases hlies7 with h9 | h9
        ·rw[h9] at e;exact .inl e
        ·exact .inr (Nat.le_trans HFV.out.size (Nat.le_trans hal2.size (h9 g e)))
       clear hown7 hgr7 hlies7 hb7 hrow HPA hal2 z0 z1 z2 z3 z4 lPA
       refine hK.out _ _ (trivial) (fun hHeld=>?_)
       clear hK K
       refine tY 8 (.pointer (some ⟨P,0,none⟩)) (.f (.s (.s (.s .z)))) (by kernel_rfl) (by rfl) ?_ ‹_› ?_
       ·intro wq hSw;go_simp
       refine tY 9 (.pointer (some ⟨P,2,none⟩)) (.f (.s (.s (.s (.s .z))))) (by kernel_rfl) (by rfl) ?_ ‹_› ?_
       ·intro wq hSw;go_simp
       try simp only[Act.put,q1,q2,q3]
       refine wpAnyH_ready (rs:=[10]) (by kernel_rfl) (by simp) ?_
       refine rdA (.t .z) (fun K hK=>?_) AllReadyH.nil
       go_simp
       refine hK.out _ _ (trivial) (fun hHeld=>?_)
       clear hK K
       try simp only[Act.put,q1,q2,q3]
       refine wpAnyH_done (by kernel_rfl) ?_ _
       refine NoPanic.normal ?_
       clear hHeld t0 t1 t2 t3 t4 f7 l7
       go_wp2_with fail
       go_meet
       exact⟨g7,c7',HM⟩
      ·go_simp
       refine hK.out _ _ (trivial) (fun hHeld=>?_)
       clear hK K
       try simp only[Act.put,q1,q2,q3]
       refine wpAnyH_ready (rs:=[4,6]) (by kernel_rfl) (by simp) ?_
       refine rdA (.s (.s (.s (.s .z)))) (fun K hK=>?_) ?_
       rotate_left 1
       refine rdA (.f (.s .z)) (fun K hK=>?_) ?_
       rotate_left 1
       exact AllReadyH.nil
       ·go_simp
        refine hK.out _ _ (trivial) (fun hHeld=>?_)
        clear hK K
        try simp only[Act.put,q1,q2,q3]
        refine wpAnyH_ready (rs:=[6]) (by kernel_rfl) (by simp) ?_
        refine rdA (.f (.s .z)) (fun K hK=>?_) AllReadyH.nil
        go_simp
        have hal2:=(Below.refl V.heap.size V).alloc (Nat.le_refl _) (.cells #[.int .i64 2,.int .i64 tx,.int .i64 0,.int .i64 0,.int .i64 0,.slice xk i xkc,.slice none 0 0,.int .i64 0,.string ⟨#[]⟩] 93)
        have HPA:Hid (PAt Xs (V.alloc (.cells #[.int .i64 2,.int .i64 tx,.int .i64 0,.int .i64 0,.int .i64 0,.slice xk i xkc,.slice none 0 0,.int .i64 0,.string ⟨#[]⟩] 93)) P U (.slice pa1 A pc1) A (.slice na1 Bn nc1) Bn tx s2):=HPV.out.below hal2
        obtain⟨z0,z1,z2,z3,z4⟩:=box5P HPA.out.box
        have lPA:P<(V.alloc (.cells #[.int .i64 2,.int .i64 tx,.int .i64 0,.int .i64 0,.int .i64 0,.slice xk i xkc,.slice none 0 0,.int .i64 0,.string ⟨#[]⟩] 93)).heap.size:=HPA.out.lt (.inl rfl)
        refine hK.out _ _ (trivial) (fun hHeld=>?_)
        clear hK K
        try simp only[Act.put,q1,q2,q3]
        refine wpAnyH_ready (rs:=[7]) (by kernel_rfl) (by simp) ?_
        refine rdA (.f (.s (.s .z))) (fun K hK=>?_) AllReadyH.nil
        have hrow:=owns_below HRP.out hal2
        refine step_append_T rfl _ _ 30 rfl 0 93 ip _ 9 112 Tryz.underlying30 hip hp0 hp1 hp2 rfl (by decide) (.slice pa1 A pc1) A css.flatten (by simp[Act.eval]) hrow ⟨V.heap.size,0,none⟩ 1 1 [.int .i64 2,.int .i64 tx,.int .i64 0,.int .i64 0,.int .i64 0,.slice xk i xkc,.slice none 0 0,.int .i64 0,.string ⟨#[]⟩] (by simp[Act.eval]) rfl (cell_nine_newP _ _ _ _ _ _ _ _ _ _ _) (by simp[Value.oneCell']) (by unfold maxLen;omega) (by omega) (Nat.zero_le _) ?_
        intro u7 w7 hown7 hgr7 hlies7
        obtain⟨g7,c7',rfl⟩:=own_shape hown7
        have hb7:w7.heap[P]?=_:=(hgr7.block P lPA (fun e=>HPA.out.apart.1 e.symm)).trans HPA.out.box
        obtain⟨t0,t1,t2,t3,t4⟩:=box5P hb7
        have f7:=thawT hb7
        have l7:P<w7.heap.size:=(Array.getElem?_eq_some_iff.1 hb7).1
        have HM:Hid (PAt Xs (w7.setCell ⟨P,2,none⟩ (.slice g7 (A+1) c7')) P U (.slice g7 (A+1) c7') (A+1) (.slice na1 Bn nc1) Bn tx s2∧Fr (fun g=>g=P∨(Value.slice pa1 A pc1).ownBlock=some g) W (w7.setCell ⟨P,2,none⟩ (.slice g7 (A+1) c7'))∧∀ g,(Value.slice g7 (A+1) c7').ownBlock=some g->(Value.slice pa1 A pc1).ownBlock=some g∨W.heap.size<=g):=by
         refine⟨HPA.out.pushP (n:=0) HCS.out.1 (pgs_fr (S:=fun _=>False) HCS.out.2 (Fr.of_below hal2) (fun _ e=>e.elim)) HNM.out (HNC.out.below hal2) hown7 hgr7,(HFV.out.trans ((Fr.of_below hal2).trans (Fr.of_grown hgr7 (fun g e=>.inr e)))).trans ((fr_setT w7 P 2 _).weak (fun g e=>.inl e)),fun g e=>?_⟩
         rcases hlies7 with h9 | h9
         ·rw[h9] at e;exact .inl e
         ·exact .inr (Nat.le_trans HFV.out.size (Nat.le_trans hal2.size (h9 g e)))
        clear hown7 hgr7 hlies7 hb7 hrow HPA hal2 z0 z1 z2 z3 z4 lPA
        refine hK.out _ _ (trivial) (fun hHeld=>?_)
        clear hK K
        refine tY 8 (.pointer (some ⟨P,0,none⟩)) (.f (.s (.s (.s .z)))) (by kernel_rfl) (by rfl) ?_ ‹_› ?_
        ·intro wq hSw;go_simp
        refine tY 9 (.pointer (some ⟨P,2,none⟩)) (.f (.s (.s (.s (.s .z))))) (by kernel_rfl) (by rfl) ?_ ‹_› ?_
        ·intro wq hSw;go_simp
        try simp only[Act.put,q1,q2,q3]
        refine wpAnyH_ready (rs:=[10]) (by kernel_rfl) (by simp) ?_
        refine rdA (.t .z) (fun K hK=>?_) AllReadyH.nil
        go_simp
        refine hK.out _ _ (trivial) (fun hHeld=>?_)
        clear hK K
        try simp only[Act.put,q1,q2,q3]
        refine wpAnyH_done (by kernel_rfl) ?_ _
        refine NoPanic.normal ?_
        clear hHeld t0 t1 t2 t3 t4 f7 l7
        go_wp2_with fail
        go_meet
        exact⟨g7,c7',HM⟩
       ·go_simp
        have hal2:=(Below.refl V.heap.size V).alloc (Nat.le_refl _) (.cells #[.int .i64 2,.int .i64 tx,.int .i64 0,.int .i64 0,.int .i64 0,.slice xk i xkc,.slice none 0 0,.int .i64 0,.string ⟨#[]⟩] 93)
        have HPA:Hid (PAt Xs (V.alloc (.cells #[.int .i64 2,.int .i64 tx,.int .i64 0,.int .i64 0,.int .i64 0,.slice xk i xkc,.slice none 0 0,.int .i64 0,.string ⟨#[]⟩] 93)) P U (.slice pa1 A pc1) A (.slice na1 Bn nc1) Bn tx s2):=HPV.out.below hal2
        obtain⟨z0,z1,z2,z3,z4⟩:=box5P HPA.out.box
        have lPA:P<(V.alloc (.cells #[.int .i64 2,.int .i64 tx,.int .i64 0,.int .i64 0,.int .i64 0,.slice xk i xkc,.slice none 0 0,.int .i64 0,.string ⟨#[]⟩] 93)).heap.size:=HPA.out.lt (.inl rfl)
        refine hK.out _ _ (trivial) (fun hHeld=>?_)
        clear hK K
        try simp only[Act.put,q1,q2,q3]
        refine wpAnyH_ready (rs:=[4]) (by kernel_rfl) (by simp) ?_
        refine rdA (.s (.s (.s (.s .z)))) (fun K hK=>?_) AllReadyH.nil
        go_simp
        refine hK.out _ _ (trivial) (fun hHeld=>?_)
        clear hK K
        try simp only[Act.put,q1,q2,q3]
        refine wpAnyH_ready (rs:=[7]) (by kernel_rfl) (by simp) ?_
        refine rdA (.f (.s (.s .z))) (fun K hK=>?_) AllReadyH.nil
        have hrow:=owns_below HRP.out hal2
        refine step_append_T rfl _ _ 30 rfl 0 93 ip _ 9 112 Tryz.underlying30 hip hp0 hp1 hp2 rfl (by decide) (.slice pa1 A pc1) A css.flatten (by simp[Act.eval]) hrow ⟨V.heap.size,0,none⟩ 1 1 [.int .i64 2,.int .i64 tx,.int .i64 0,.int .i64 0,.int .i64 0,.slice xk i xkc,.slice none 0 0,.int .i64 0,.string ⟨#[]⟩] (by simp[Act.eval]) rfl (cell_nine_newP _ _ _ _ _ _ _ _ _ _ _) (by simp[Value.oneCell']) (by unfold maxLen;omega) (by omega) (Nat.zero_le _) ?_
        intro u7 w7 hown7 hgr7 hlies7
        obtain⟨g7,c7',rfl⟩:=own_shape hown7
        have hb7:w7.heap[P]?=_:=(hgr7.block P lPA (fun e=>HPA.out.apart.1 e.symm)).trans HPA.out.box
        obtain⟨t0,t1,t2,t3,t4⟩:=box5P hb7
        have f7:=thawT hb7
        have l7:P<w7.heap.size:=(Array.getElem?_eq_some_iff.1 hb7).1
        have HM:Hid (PAt Xs (w7.setCell ⟨P,2,none⟩ (.slice g7 (A+1) c7')) P U (.slice g7 (A+1) c7') (A+1) (.slice na1 Bn nc1) Bn tx s2∧Fr (fun g=>g=P∨(Value.slice pa1 A pc1).ownBlock=some g) W (w7.setCell ⟨P,2,none⟩ (.slice g7 (A+1) c7'))∧∀ g,(Value.slice g7 (A+1) c7').ownBlock=some g->(Value.slice pa1 A pc1).ownBlock=some g∨W.heap.size<=g):=by
         refine⟨HPA.out.pushP (n:=0) HCS.out.1 (pgs_fr (S:=fun _=>False) HCS.out.2 (Fr.of_below hal2) (fun _ e=>e.elim)) HNM.out (HNC.out.below hal2) hown7 hgr7,(HFV.out.trans ((Fr.of_below hal2).trans (Fr.of_grown hgr7 (fun g e=>.inr e)))).trans ((fr_setT w7 P 2 _).weak (fun g e=>.inl e)),fun g e=>?_⟩
         rcases hlies7 with h9 | h9
         ·rw[h9] at e;exact .inl e
         ·exact .inr (Nat.le_trans HFV.out.size (Nat.le_trans hal2.size (h9 g e)))
        clear hown7 hgr7 hlies7 hb7 hrow HPA hal2 z0 z1 z2 z3 z4 lPA
        refine hK.out _ _ (trivial) (fun hHeld=>?_)
        clear hK K
        refine tY 8 (.pointer (some ⟨P,0,none⟩)) (.f (.s (.s (.s .z)))) (by kernel_rfl) (by rfl) ?_ ‹_› ?_
        ·intro wq hSw;go_simp
        refine tY 9 (.pointer (some ⟨P,2,none⟩)) (.f (.s (.s (.s (.s .z))))) (by kernel_rfl) (by rfl) ?_ ‹_› ?_
        ·intro wq hSw;go_simp
        try simp only[Act.put,q1,q2,q3]
        refine wpAnyH_ready (rs:=[10]) (by kernel_rfl) (by simp) ?_
        refine rdA (.t .z) (fun K hK=>?_) AllReadyH.nil
        go_simp
        refine hK.out _ _ (trivial) (fun hHeld=>?_)
        clear hK K
        try simp only[Act.put,q1,q2,q3]
        refine wpAnyH_done (by kernel_rfl) ?_ _
        refine NoPanic.normal ?_
        clear hHeld t0 t1 t2 t3 t4 f7 l7
        go_wp2_with fail
        go_meet
        exact⟨g7,c7',HM⟩
    case rest =>
     obtain⟨pa2,pc2,HC⟩:=hcut
     obtain⟨hc1,hc2,hc3⟩:=HC.out
     have hzz:∀ g,ZP P U (.slice pa2 (A+1) pc2) (.slice na1 Bn nc1) g->ZP P U (.slice pa1 A pc1) (.slice na1 Bn nc1) g∨W.heap.size<=g:=ZP.next (fun g e=>.inl e) hc3 (fun g e=>.inl e) (Nat.le_refl _)
     have HL4:Hid (LfSt Xs w wc N P U (.slice pa a pc) (.slice na b nc) #[.bool false,.int .i64 y,.slice ka 0 kc,.slice va 0 vc,.slice xa 0 xc,.slice sa i sc] (.slice xa 0 xc) 0 ob.1 pa2 (A+1) pc2 na1 Bn nc1 tx s2):=HL3.out.step hc1 (hc2.weak (fun g e=>e.elim .inl (fun e=>.inr (.inr (.inl e))))) hzz
     have HF4:Hid (Fr (fun g=>g=N∨g=N+1∨g=N+2∨ZP P U (.slice pa1 A pc1) (.slice na1 Bn nc1) g) wr wc):=HF3.out.trans (hc2.weak (fun g e=>.inr (.inr (.inr (e.elim .inl (fun e=>.inr (.inr (.inl e))))))))
     have HZ4:Hid (∀ g,ZP P U (.slice pa2 (A+1) pc2) (.slice na1 Bn nc1) g->ZP P U (.slice pa1 A pc1) (.slice na1 Bn nc1) g∨wr.heap.size<=g):=fun g e=>(hzz g e).elim .inl (fun e=>.inr (Nat.le_trans HF3.out.size e))
     have HNW2:Hid (s2.log[Bn]?=some (y,pc9)):=by show _=_;rw[HNX.out.2.2,HALB.out.2];simp
     clear hzz hc1 hc2 hc3 HC HL3 HP3 HF3 HPW kK lKW HNW
     have HNW:=HNW2
     generalize wc=W at HL4 HF4 ⊢
     have HPW:Hid (PAt Xs W P U (.slice pa2 (A+1) pc2) (A+1) (.slice na1 Bn nc1) Bn tx s2):=HL4.out.pat
     go_upto_region 31 with fail
     go_cut [] (fun wx=>∃ (na2:Option Addr) (nc2:Nat),Hid (PAt Xs wx P U (.slice pa2 (A+1) pc2) (A+1) (.slice na2 (Bn+1) nc2) (Bn+1) tx s2∧Fr (fun g=>g=P∨(Value.slice na1 Bn nc1).ownBlock=some g) W wx∧∀ g,(Value.slice na2 (Bn+1) nc2).ownBlock=some g->(Value.slice na1 Bn nc1).ownBlock=some g∨W.heap.size<=g))
     case first =>
      have bV0:=(Below.refl W.heap.size W).drew
      refine wp_region_noPanic ?_
      refine wp_region_held_drew (S:=(fun _:World=>True)) (by kernel_rfl) (trivial) (fun hHeld=>?_)
      clear hHeld
      generalize W.drew=V at bV0 ⊢
      have hHeld:=trivial
      have HPV:Hid (PAt Xs V P U (.slice pa2 (A+1) pc2) (A+1) (.slice na1 Bn nc1) Bn tx s2):=HPW.out.below bV0
      have HFV:Hid (Fr (fun g=>g=P∨(Value.slice na1 Bn nc1).ownBlock=some g) W V):=Fr.of_below bV0
      have hrV:=HPV.out.nms
      have HNM:Hid (s2.log[Bn]?=some (y,pc9)):=HNW.out
      have HRN:Hid (V.ownsRow 0 2 1 (.slice na1 Bn nc1) Bn (rowsOf intCells ((s2.log.take Bn).map Prod.fst))):=hrV
      clear hrV
      obtain⟨q0,q1,q2,q3,q4⟩:=box5P HPV.out.box
      have lP:P<V.heap.size:=HPV.out.lt (.inl rfl)
      have kV:V.heap[N]?=_:=(bV0.block N (HL4.out.lb (.inl rfl)).1).trans HL4.out.k0
      obtain⟨d0,d1,d2,d3,d4,d5⟩:=box6g kV
      have lNV:N<V.heap.size:=(Array.getElem?_eq_some_iff.1 kV).1
      clear bV0
      refine tY 0 (.pointer (some ⟨P,0,none⟩)) .z (by kernel_rfl) (by rfl) ?_ ‹_› ?_
      ·intro wq hSw;go_simp
      refine tY 1 (.pointer (some ⟨P,0,none⟩)) (.s .z) (by kernel_rfl) (by rfl) ?_ ‹_› ?_
      ·intro wq hSw;go_simp
      refine tY 2 (.pointer (some ⟨P,0,none⟩)) (.s (.s .z)) (by kernel_rfl) (by rfl) ?_ ‹_› ?_
      ·intro wq hSw;go_simp
      refine tY 3 (.pointer (some ⟨P,3,none⟩)) (.s (.s (.s .z))) (by kernel_rfl) (by rfl) ?_ ‹_› ?_
      ·intro wq hSw;go_simp
      try simp only[Act.put,q1,q2,q3]
      refine tY 5 (.pointer (some ⟨N,1,none⟩)) (.f .z) (by kernel_rfl) (by rfl) ?_ ‹_› ?_
      ·intro wq hSw;go_simp
      try simp only[Act.put,q1,q2,q3]
      refine wpAnyH_ready (rs:=[4,6]) (by kernel_rfl) (by simp) ?_
      refine rdA (.s (.s (.s (.s .z)))) (fun K hK=>?_) ?_
      rotate_left 1
      refine rdA (.f (.s .z)) (fun K hK=>?_) ?_
      rotate_left 1
      exact AllReadyH.nil
      ·go_simp
       refine hK.out _ _ (trivial) (fun hHeld=>?_)
       clear hK K
       try simp only[Act.put,q1,q2,q3]
       refine wpAnyH_ready (rs:=[6]) (by kernel_rfl) (by simp) ?_
       refine rdA (.f (.s .z)) (fun K hK=>?_) AllReadyH.nil
       go_simp
       refine hK.out _ _ (trivial) (fun hHeld=>?_)
       clear hK K
       try simp only[Act.put,q1,q2,q3]
       refine wpAnyH_ready (rs:=[7]) (by kernel_rfl) (by simp) ?_
       refine rdA (.f (.s (.s .z))) (fun K hK=>?_) AllReadyH.nil
       go_simp
       have hal2:=(Below.refl V.heap.size V).alloc (Nat.le_refl _) (.cells #[.int .i64 y] 2)
       have HPA:Hid (PAt Xs (V.alloc (.cells #[.int .i64 y] 2)) P U (.slice pa2 (A+1) pc2) (A+1) (.slice na1 Bn nc1) Bn tx s2):=HPV.out.below hal2
       obtain⟨z0,z1,z2,z3,z4⟩:=box5P HPA.out.box
       have lPA:P<(V.alloc (.cells #[.int .i64 y] 2)).heap.size:=HPA.out.lt (.inl rfl)
       refine hK.out _ _ (trivial) (fun hHeld=>?_)
       clear hK K
       try simp only[Act.put,q1,q2,q3]
       refine wpAnyH_ready (rs:=[8]) (by kernel_rfl) (by simp) ?_
       refine rdA (.f (.s (.s (.s .z)))) (fun K hK=>?_) AllReadyH.nil
       have hrow:=owns_below HRN.out hal2
       refine step_append_T rfl _ _ 25 rfl 0 2 ii _ 1 8 Tryz.underlying25 hii hj0 hj1 hj2 rfl (by decide) (.slice na1 Bn nc1) Bn (rowsOf intCells ((s2.log.take Bn).map Prod.fst)) (by simp[Act.eval]) hrow ⟨V.heap.size,0,none⟩ 1 1 [.int .i64 y] (by simp[Act.eval]) rfl (cell_one_newP _ _ _) (by simp[Value.oneCell']) (by unfold maxLen;omega) (by omega) (Nat.zero_le _) ?_
       intro u7 w7 hown7 hgr7 hlies7
       obtain⟨g7,c7',rfl⟩:=own_shape hown7
       have hb7:w7.heap[P]?=_:=(hgr7.block P lPA (fun e=>HPA.out.apart.2.2.1 e.symm)).trans HPA.out.box
       obtain⟨t0,t1,t2,t3,t4⟩:=box5P hb7
       have f7:=thawT hb7
       have l7:P<w7.heap.size:=(Array.getElem?_eq_some_iff.1 hb7).1
       have HM:Hid (PAt Xs (w7.setCell ⟨P,3,none⟩ (.slice g7 (Bn+1) c7')) P U (.slice pa2 (A+1) pc2) (A+1) (.slice g7 (Bn+1) c7') (Bn+1) tx s2∧Fr (fun g=>g=P∨(Value.slice na1 Bn nc1).ownBlock=some g) W (w7.setCell ⟨P,3,none⟩ (.slice g7 (Bn+1) c7'))∧∀ g,(Value.slice g7 (Bn+1) c7').ownBlock=some g->(Value.slice na1 Bn nc1).ownBlock=some g∨W.heap.size<=g):=by
        refine⟨HPA.out.pushN HNM.out hown7 hgr7,(HFV.out.trans ((Fr.of_below hal2).trans (Fr.of_grown hgr7 (fun g e=>.inr e)))).trans ((fr_setT w7 P 3 _).weak (fun g e=>.inl e)),fun g e=>?_⟩
        rcases hlies7 with h9 | h9
        ·rw[h9] at e;exact .inl e
        ·exact .inr (Nat.le_trans HFV.out.size (Nat.le_trans hal2.size (h9 g e)))
       clear hown7 hgr7 hlies7 hb7 hrow HPA hal2 z0 z1 z2 z3 z4 lPA
       refine hK.out _ _ (trivial) (fun hHeld=>?_)
       clear hK K
       refine tY 9 (.pointer (some ⟨P,0,none⟩)) (.f (.s (.s (.s (.s .z))))) (by kernel_rfl) (by rfl) ?_ ‹_› ?_
       ·intro wq hSw;go_simp
       refine tY 10 (.pointer (some ⟨P,3,none⟩)) (.t .z) (by kernel_rfl) (by rfl) ?_ ‹_› ?_
       ·intro wq hSw;go_simp
       try simp only[Act.put,q1,q2,q3]
       refine wpAnyH_ready (rs:=[11]) (by kernel_rfl) (by simp) ?_
       refine rdA (.t (.s .z)) (fun K hK=>?_) AllReadyH.nil
       go_simp
       refine hK.out _ _ (trivial) (fun hHeld=>?_)
       clear hK K
       try simp only[Act.put,q1,q2,q3]
       refine wpAnyH_done (by kernel_rfl) ?_ _
       refine NoPanic.normal ?_
       clear hHeld t0 t1 t2 t3 t4 f7 l7
       go_wp2_with fail
       go_meet
       exact⟨g7,c7',HM⟩
      ·go_simp
       refine hK.out _ _ (trivial) (fun hHeld=>?_)
       clear hK K
       try simp only[Act.put,q1,q2,q3]
       refine wpAnyH_ready (rs:=[4,7]) (by kernel_rfl) (by simp) ?_
       refine rdA (.s (.s (.s (.s .z)))) (fun K hK=>?_) ?_
       rotate_left 1
       refine rdA (.f (.s (.s .z))) (fun K hK=>?_) ?_
       rotate_left 1
       exact AllReadyH.nil
       ·go_simp
        refine hK.out _ _ (trivial) (fun hHeld=>?_)
        clear hK K
        try simp only[Act.put,q1,q2,q3]
        refine wpAnyH_ready (rs:=[7]) (by kernel_rfl) (by simp) ?_
        refine rdA (.f (.s (.s .z))) (fun K hK=>?_) AllReadyH.nil
        go_simp
        have hal2:=(Below.refl V.heap.size V).alloc (Nat.le_refl _) (.cells #[.int .i64 y] 2)
        have HPA:Hid (PAt Xs (V.alloc (.cells #[.int .i64 y] 2)) P U (.slice pa2 (A+1) pc2) (A+1) (.slice na1 Bn nc1) Bn tx s2):=HPV.out.below hal2
        obtain⟨z0,z1,z2,z3,z4⟩:=box5P HPA.out.box
        have lPA:P<(V.alloc (.cells #[.int .i64 y] 2)).heap.size:=HPA.out.lt (.inl rfl)
        refine hK.out _ _ (trivial) (fun hHeld=>?_)
        clear hK K
        try simp only[Act.put,q1,q2,q3]
        refine wpAnyH_ready (rs:=[8]) (by kernel_rfl) (by simp) ?_
        refine rdA (.f (.s (.s (.s .z)))) (fun K hK=>?_) AllReadyH.nil
        have hrow:=owns_below HRN.out hal2
        refine step_append_T rfl _ _ 25 rfl 0 2 ii _ 1 8 Tryz.underlying25 hii hj0 hj1 hj2 rfl (by decide) (.slice na1 Bn nc1) Bn (rowsOf intCells ((s2.log.take Bn).map Prod.fst)) (by simp[Act.eval]) hrow ⟨V.heap.size,0,none⟩ 1 1 [.int .i64 y] (by simp[Act.eval]) rfl (cell_one_newP _ _ _) (by simp[Value.oneCell']) (by unfold maxLen;omega) (by omega) (Nat.zero_le _) ?_
        intro u7 w7 hown7 hgr7 hlies7
        obtain⟨g7,c7',rfl⟩:=own_shape hown7
        have hb7:w7.heap[P]?=_:=(hgr7.block P lPA (fun e=>HPA.out.apart.2.2.1 e.symm)).trans HPA.out.box
        obtain⟨t0,t1,t2,t3,t4⟩:=box5P hb7
        have f7:=thawT hb7
        have l7:P<w7.heap.size:=(Array.getElem?_eq_some_iff.1 hb7).1
        have HM:Hid (PAt Xs (w7.setCell ⟨P,3,none⟩ (.slice g7 (Bn+1) c7')) P U (.slice pa2 (A+1) pc2) (A+1) (.slice g7 (Bn+1) c7') (Bn+1) tx s2∧Fr (fun g=>g=P∨(Value.slice na1 Bn nc1).ownBlock=some g) W (w7.setCell ⟨P,3,none⟩ (.slice g7 (Bn+1) c7'))∧∀ g,(Value.slice g7 (Bn+1) c7').ownBlock=some g->(Value.slice na1 Bn nc1).ownBlock=some g∨W.heap.size<=g):=by
         refine⟨HPA.out.pushN HNM.out hown7 hgr7,(HFV.out.trans ((Fr.of_below hal2).trans (Fr.of_grown hgr7 (fun g e=>.inr e)))).trans ((fr_setT w7 P 3 _).weak (fun g e=>.inl e)),fun g e=>?_⟩
         rcases hlies7 with h9 | h9
         ·rw[h9] at e;exact .inl e
         ·exact .inr (Nat.le_trans HFV.out.size (Nat.le_trans hal2.size (h9 g e)))
        clear hown7 hgr7 hlies7 hb7 hrow HPA hal2 z0 z1 z2 z3 z4 lPA
        refine hK.out _ _ (trivial) (fun hHeld=>?_)
        clear hK K
        refine tY 9 (.pointer (some ⟨P,0,none⟩)) (.f (.s (.s (.s (.s .z))))) (by kernel_rfl) (by rfl) ?_ ‹_› ?_
        ·intro wq hSw;go_simp
        refine tY 10 (.pointer (some ⟨P,3,none⟩)) (.t .z) (by kernel_rfl) (by rfl) ?_ ‹_› ?_
        ·intro wq hSw;go_simp
        try simp only[Act.put,q1,q2,q3]
        refine wpAnyH_ready (rs:=[11]) (by kernel_rfl) (by simp) ?_
        refine rdA (.t (.s .z)) (fun K hK=>?_) AllReadyH.nil
        go_simp
        refine hK.out _ _ (trivial) (fun hHeld=>?_)
        clear hK K
        try simp only[Act.put,q1,q2,q3]
        refine wpAnyH_done (by kernel_rfl) ?_ _
        refine NoPanic.normal ?_
        clear hHeld t0 t1 t2 t3 t4 f7 l7
        go_wp2_with fail
        go_meet
        exact⟨g7,c7',HM⟩
       ·go_simp
        have hal2:=(Below.refl V.heap.size V).alloc (Nat.le_refl _) (.cells #[.int .i64 y] 2)
        have HPA:Hid (PAt Xs (V.alloc (.cells #[.int .i64 y] 2)) P U (.slice pa2 (A+1) pc2) (A+1) (.slice na1 Bn nc1) Bn tx s2):=HPV.out.below hal2
        obtain⟨z0,z1,z2,z3,z4⟩:=box5P HPA.out.box
        have lPA:P<(V.alloc (.cells #[.int .i64 y] 2)).heap.size:=HPA.out.lt (.inl rfl)
        refine hK.out _ _ (trivial) (fun hHeld=>?_)
        clear hK K
        try simp only[Act.put,q1,q2,q3]
        refine wpAnyH_ready (rs:=[4]) (by kernel_rfl) (by simp) ?_
        refine rdA (.s (.s (.s (.s .z)))) (fun K hK=>?_) AllReadyH.nil
        go_simp
        refine hK.out _ _ (trivial) (fun hHeld=>?_)
        clear hK K
        try simp only[Act.put,q1,q2,q3]
        refine wpAnyH_ready (rs:=[8]) (by kernel_rfl) (by simp) ?_
        refine rdA (.f (.s (.s (.s .z)))) (fun K hK=>?_) AllReadyH.nil
        have hrow:=owns_below HRN.out hal2
        refine step_append_T rfl _ _ 25 rfl 0 2 ii _ 1 8 Tryz.underlying25 hii hj0 hj1 hj2 rfl (by decide) (.slice na1 Bn nc1) Bn (rowsOf intCells ((s2.log.take Bn).map Prod.fst)) (by simp[Act.eval]) hrow ⟨V.heap.size,0,none⟩ 1 1 [.int .i64 y] (by simp[Act.eval]) rfl (cell_one_newP _ _ _) (by simp[Value.oneCell']) (by unfold maxLen;omega) (by omega) (Nat.zero_le _) ?_
        intro u7 w7 hown7 hgr7 hlies7
        obtain⟨g7,c7',rfl⟩:=own_shape hown7
        have hb7:w7.heap[P]?=_:=(hgr7.block P lPA (fun e=>HPA.out.apart.2.2.1 e.symm)).trans HPA.out.box
        obtain⟨t0,t1,t2,t3,t4⟩:=box5P hb7
        have f7:=thawT hb7
        have l7:P<w7.heap.size:=(Array.getElem?_eq_some_iff.1 hb7).1
        have HM:Hid (PAt Xs (w7.setCell ⟨P,3,none⟩ (.slice g7 (Bn+1) c7')) P U (.slice pa2 (A+1) pc2) (A+1) (.slice g7 (Bn+1) c7') (Bn+1) tx s2∧Fr (fun g=>g=P∨(Value.slice na1 Bn nc1).ownBlock=some g) W (w7.setCell ⟨P,3,none⟩ (.slice g7 (Bn+1) c7'))∧∀ g,(Value.slice g7 (Bn+1) c7').ownBlock=some g->(Value.slice na1 Bn nc1).ownBlock=some g∨W.heap.size<=g):=by
         refine⟨HPA.out.pushN HNM.out hown7 hgr7,(HFV.out.trans ((Fr.of_below hal2).trans (Fr.of_grown hgr7 (fun g e=>.inr e)))).trans ((fr_setT w7 P 3 _).weak (fun g e=>.inl e)),fun g e=>?_⟩
         rcases hlies7 with h9 | h9
         ·rw[h9] at e;exact .inl e
         ·exact .inr (Nat.le_trans HFV.out.size (Nat.le_trans hal2.size (h9 g e)))
        clear hown7 hgr7 hlies7 hb7 hrow HPA hal2 z0 z1 z2 z3 z4 lPA
        refine hK.out _ _ (trivial) (fun hHeld=>?_)
        clear hK K
        refine tY 9 (.pointer (some ⟨P,0,none⟩)) (.f (.s (.s (.s (.s .z))))) (by kernel_rfl) (by rfl) ?_ ‹_› ?_
        ·intro wq hSw;go_simp
        refine tY 10 (.pointer (some ⟨P,3,none⟩)) (.t .z) (by kernel_rfl) (by rfl) ?_ ‹_› ?_
        ·intro wq hSw;go_simp
        try simp only[Act.put,q1,q2,q3]
        refine wpAnyH_ready (rs:=[11]) (by kernel_rfl) (by simp) ?_
        refine rdA (.t (.s .z)) (fun K hK=>?_) AllReadyH.nil
        go_simp
        refine hK.out _ _ (trivial) (fun hHeld=>?_)
        clear hK K
        try simp only[Act.put,q1,q2,q3]
        refine wpAnyH_done (by kernel_rfl) ?_ _
        refine NoPanic.normal ?_
        clear hHeld t0 t1 t2 t3 t4 f7 l7
        go_wp2_with fail
        go_meet
        exact⟨g7,c7',HM⟩
     case rest =>
      obtain⟨na2,nc2,HC⟩:=hcut
      obtain⟨hc1,hc2,hc3⟩:=HC.out
      have hzz:∀ g,ZP P U (.slice pa2 (A+1) pc2) (.slice na2 (Bn+1) nc2) g->ZP P U (.slice pa2 (A+1) pc2) (.slice na1 Bn nc1) g∨W.heap.size<=g:=ZP.next (fun g e=>.inl e) (fun g e=>.inl e) hc3 (Nat.le_refl _)
      have HL5:Hid (LfSt Xs w wc N P U (.slice pa a pc) (.slice na b nc) #[.bool false,.int .i64 y,.slice ka 0 kc,.slice va 0 vc,.slice xa 0 xc,.slice sa i sc] (.slice xa 0 xc) 0 ob.1 pa2 (A+1) pc2 na2 (Bn+1) nc2 tx s2):=HL4.out.step hc1 (hc2.weak (fun g e=>e.elim .inl (fun e=>.inr (.inr (.inr e))))) hzz
      have HF5:Hid (Fr (fun g=>g=N∨g=N+1∨g=N+2∨ZP P U (.slice pa1 A pc1) (.slice na1 Bn nc1) g) wr wc):=HF4.out.trans (hc2.weak (fun g e=>.inr (.inr (.inr (e.elim .inl (fun e=>.inr (.inr (.inr e))))))))
      have HZ5:Hid (∀ g,ZP P U (.slice pa2 (A+1) pc2) (.slice na2 (Bn+1) nc2) g->ZP P U (.slice pa1 A pc1) (.slice na1 Bn nc1) g∨wr.heap.size<=g):=fun g e=>(hzz g e).elim (HZ4.out g) (fun e=>.inr (Nat.le_trans HF4.out.size e))
      clear hzz hc1 hc2 hc3 HC HPW HL4 HF4 HZ4
      obtain⟨q0,q1,q2,q3,q4,q5⟩:=box6g HL5.out.k0
      obtain⟨z0,z1,z2,z3,z4,z5⟩:=box6g HL5.out.k1
      have f1:=thawT HL5.out.k1
      have lN:=(HL5.out.lb (.inl rfl)).1
      have l1:=(HL5.out.lb (.inr (.inl rfl))).1
      have kf:=put6T_box HL5.out.k1 (.bool false) (.int .i64 y) (.slice ka 0 kc) (.slice va 0 vc) (.slice xa 0 xc) (.slice sa i sc)
      have fb:=put6T_fr wc (N+1) (.bool false) (.int .i64 y) (.slice ka 0 kc) (.slice va 0 vc) (.slice xa 0 xc) (.slice sa i sc)
      obtain⟨y0,y1,y2,y3,y4,y5⟩:=box6g kf
      have HF6:Hid (Fr (fun g=>g=N∨g=N+1∨g=N+2∨ZP P U (.slice pa1 A pc1) (.slice na1 Bn nc1) g) wr (put6T wc (N+1) (.bool false) (.int .i64 y) (.slice ka 0 kc) (.slice va 0 vc) (.slice xa 0 xc) (.slice sa i sc))):=HF5.out.trans (fb.weak (fun g e=>.inr (.inl e)))
      have HO6:Hid ((put6T wc (N+1) (.bool false) (.int .i64 y) (.slice ka 0 kc) (.slice va 0 vc) (.slice xa 0 xc) (.slice sa i sc)).ownsRow (N+4) 2 1 (.slice xa 0 xc) 0 (rowsOf intCells ob.1)):=owns_fr HL5.out.over fb (fun g e e'=>by have:=(HL5.out.over.lt g e).1;omega)
      have HP6:Hid (PAt Xs (put6T wc (N+1) (.bool false) (.int .i64 y) (.slice ka 0 kc) (.slice va 0 vc) (.slice xa 0 xc) (.slice sa i sc)) P U (.slice pa2 (A+1) pc2) (A+1) (.slice na2 (Bn+1) nc2) (Bn+1) tx s2):=HL5.out.pat.fr fb (fun g e e'=>by have:=HL5.out.zn e;omega) (fun g e=>.inr (e ▸ nk_blk HL5.out.k1 (by decide) (by decide)))
      have HR6:Hid (Fr (ZP P U (.slice pa a pc) (.slice na b nc)) w (put6T wc (N+1) (.bool false) (.int .i64 y) (.slice ka 0 kc) (.slice va 0 vc) (.slice xa 0 xc) (.slice sa i sc))):=HL5.out.fr.up3 fb (fun g e=>.inr (by rw[hN];omega))
      have HV6:Hid (∀ g,(Value.slice xa 0 xc).ownBlock=some g->¬ ZP P U (.slice pa2 (A+1) pc2) (.slice na2 (Bn+1) nc2) g∧N+4<=g):=fun g e=>⟨HL5.out.ovz e,(HL5.out.over.lt g e).1⟩
      have HH6:Hid (∀ g,ZP P U (.slice pa2 (A+1) pc2) (.slice na2 (Bn+1) nc2) g->ZP P U (.slice pa a pc) (.slice na b nc) g∨N+4<=g):=HL5.out.hz
      clear fb kf
      go_wp2_with fail
      rw[put6T_eq]
      refine bodyPost_ret (v:=.agg #[.bool false,.int .i64 y,.slice ka 0 kc,.slice va 0 vc,.slice xa 0 xc,.slice sa i sc]) (by simp[results,Tryz.results21,go_sem,y0,y1,y2,y3,y4,y5]) rfl ?_
      clear HL5 HF5 q0 q1 q2 q3 q4 q5 z0 z1 z2 z3 z4 z5 f1 lN l1 y0 y1 y2 y3 y4 y5
      generalize put6T wc (N+1) (.bool false) (.int .i64 y) (.slice ka 0 kc) (.slice va 0 vc) (.slice xa 0 xc) (.slice sa i sc)=Z at HF6 HO6 HP6 HR6 ⊢
      have hXf:=HZR.out Z HR6.out
      obtain⟨xa',xc',e9,hov⟩:=rowsAt_own (fit:=I64) (d:=0) (fun _=>rfl) HO6.out (by rw[HOB.out.1];intro x hx;cases hx)
      cases e9
      have HLY:Hid (ys.length=i):=HIR.out.len
      have HRT:Hid ((placeT t s).1=⟨false,y,[],[],ob.1,ys⟩∧(placeT t s).2=s2):=by
       rw[HPL.out,HOB.out.2.1,HOB.out.2.2,<-HOB.out.1]
       refine⟨?_,?_⟩
       ·show T.mk _ _ _ _ _ _=_
        rw[HNX.out.1]
       ·rw[<-HNX.out.2.1,<-HPC9.out,<-HNX.out.1]
        rfl
      have hks:∀ g,(Value.slice sa i sc).ownBlock=some g->¬ (g=N∨g=N+1∨g=N+2∨ZP P U (.slice pa1 A pc1) (.slice na1 Bn nc1) g):=fun g e q=>by
       have:=(HIR.out.row.lt g e).1
       rcases q with q | q | q | q
       ·omega
       ·omega
       ·omega
       ·exact zp_ty HIR.out.lf.pat HIR.out.row (by decide) (by decide) (by decide) (by decide) e q
      have hrz:=owns_fr HIR.out.row HF6.out hks
      have hRz:∀ g,R g->¬ (g=N∨g=N+1∨g=N+2∨ZP P U (.slice pa1 A pc1) (.slice na1 Bn nc1) g):=fun g e q=>by
       obtain⟨a1,a2,a3,a4,a5⟩:=HIR.out.hR g e
       rcases q with q | q | q | q
       ·rcases a1 with a1 | a1<;>omega
       ·rcases a1 with a1 | a1<;>omega
       ·rcases a1 with a1 | a1<;>omega
       ·exact a3 q
      have hnz:∀ (j:Nat) z,ys[j]?=some z->NodeQ Z Z.heap.size (fun g=>Q g∨R g∨(Value.slice sa i sc).ownBlock=some g∨(Value.slice xa 0 xc).ownBlock=some g) z (css1 j):=fun j z hz=>NodeQ.keep (fun g q hg=>HF6.out.block g hg (hRz g q)) (fun _ q=>.inr (.inl q)) HF6.out.size _ _ (HIR.out.nd j z hz)
      obtain⟨sa',sc',e9,d1,d2,d3,d4⟩:=kids_own HIR.out.six hrz
      cases e9
      have hq0:∀ {a':Option Addr},QA (fun g=>Q g∨R g∨(Value.slice sa i sc).ownBlock=some g∨(Value.slice xa 0 xc).ownBlock=some g) a' 0:=fun h=>absurd h (by omega)
      have hzk:∀ g,(Value.slice sa i sc).ownBlock=some g->¬ ZP P U (.slice pa2 (A+1) pc2) (.slice na2 (Bn+1) nc2) g:=fun g e=>zp_ty HP6.out hrz (by decide) (by decide) (by decide) (by decide) e
      refine⟨_,(fun g=>Q g∨R g∨(Value.slice sa i sc).ownBlock=some g∨(Value.slice xa 0 xc).ownBlock=some g),pa2,A+1,pc2,na2,Bn+1,nc2,rfl,?_,?_,HR6.out,?_,?_,by have:=HAB.out;have:=HND.out;omega,by have:=HAB.out;have:=HND.out;omega,by rw[HRT.out.2,HNX.out.2.2,HALB.out.1];simp,by rw[HRT.out.2,HNX.out.2.2,HALB.out.2];simp⟩
      ·rw[HRT.out.1]
       have hk9:StrsAt Z 0 Z.heap.size ka 0 kc []:=by have:=hXf.nx.keys;rwa [HKY.out.1] at this
       have hv9:StrsAt Z 0 Z.heap.size va 0 vc []:=by have:=hXf.nx.vals;rwa [HKY.out.2.1] at this
       refine⟨ka,0,kc,va,0,vc,xa,0,xc,sa,sc,css1,by show _=Value.agg #[_,_,_,_,_,.slice sa ys.length sc];rw[HLY.out],⟨⟨i64_small ⟨hy0,hy1⟩,hk9,hv9,hov,by show ys.length<=sc∧sc<=maxLen;rw[HLY.out];exact⟨d1,d2⟩,?_,fun j k hm hk=>(hnz j k hk).is⟩,hq0,hq0,hq0,?_,fun j k hm hk=>hnz j k hk⟩⟩
       ·show 0<ys.length->∃ b off,sa=some ⟨b,off,none⟩∧b<Z.heap.size∧∀ j,j<ys.length->∀ q,q<6->Z.cell? ⟨b,off+j*6+q,none⟩=(css1 j)[q]?
        rw[HLY.out]
        exact d4
       ·show QA _ sa ys.length
        rw[HLY.out]
        intro h0
        obtain⟨G9,rfl⟩:=owns_someD hrz h0
        exact⟨G9,0,rfl,.inr (.inr (.inl rfl))⟩
      ·rw[HRT.out.2];exact HP6.out
      ·exact fun g e=>(HH6.out g e).elim .inl (fun e=>.inr (by omega))
      ·intro g e
       have hs6:=HR6.out.size
       rcases e with e | e | e | e
       ·refine⟨.inl e,fun q=>?_,Nat.lt_of_lt_of_le (HQ.out g e).1 (by omega)⟩
        rcases HH6.out g q with q | q
        ·exact (HQ.out g e).2 q
        ·have:=(HQ.out g e).1;omega
       ·obtain⟨a1,a2,a3,a4,a5⟩:=HIR.out.hR g e
        refine⟨a1.elim (fun q=>.inl q.1) (fun q=>.inr (by omega)),fun q=>?_,Nat.lt_of_lt_of_le a2 HF6.out.size⟩
        rcases HZ5.out g q with q | q
        ·exact a3 q
        ·omega
       ·exact⟨.inr (by have:=(hrz.lt g e).1;omega),hzk g e,(hrz.lt g e).2⟩
       ·exact⟨.inr (by have:=(HV6.out g e).2;omega),(HV6.out g e).1,(HO6.out.lt g e).2⟩
theorem l4Place_any (t:T):(∃ r,t.good r=true)->Neat t->PlCall t:=by
 induction t using T.ind with
 | h t ih =>
  intro hg hne
  by_cases hp:t.page=0
  ·cases hl:t.leaf
   ·obtain⟨r,hgr⟩:=hg
    exact l4Place_inner t hl hp ⟨r,hgr⟩ hne (fun k hk=>ih k hk ⟨false,(good_parts hgr).2.2 k hk⟩ (((neat_eq t).1 hne).2.2 k hk))
   ·exact l4Place_leaf t hl hp hg hne
  ·exact l4Place_on t hp
end Go.Proofs.YtkhglgalbifcnaaGreat
