import Derived.Test.YtggmghkcdfjdoaaGreatHTks
import Derived.Test.YtggmghkcdfjdoaaGreatHTpx
import Derived.Test.YtggmghkcdfjdoaaGreatHTdp
import Derived.Test.YtggmghkcdfjdoaaGreatHTwj
import Derived.Test.YtggmghkcdfjdoaaGreatHTpg
import Derived.Test.YtggmghkcdfjdoaaGreatHTxm
import Derived.Test.YtggmghkcdfjdoaaGreatHTxr
import Derived.Test.YtggmghkcdfjdoaaGreatHTpr
import Derived.Deep.CutBlock
import Derived.Deep.DeepCutAuto
namespace Go.Proofs.YtggmghkcdfjdoaaGreat
set_option maxHeartbeats 16000000
open Go.RowKit Tryz
set_option linter.unusedVariables false
set_option linter.unusedSimpArgs false
set_option maxRecDepth 100000
variable {A B C Lb M N base c cc g i n:Nat} {D:Nat->Nat->List Value} {H:Nat->List Value} {S S':Nat->Prop} {U us:Nat->Nat->Value} {a:Option Addr} {ts:List TN} {w w' wx:World} {x y:TN}
def DT (w:World) (S:Nat->Prop) (a:Option Addr) (n c:Nat) (ts:List TN):Prop:=∃ A' B',(∀ g,S g->g<A'∨B'<=g)∧B'<=w.heap.size∧aw w A' B' a n c ts
theorem DT.fr (h:DT w S a n c ts) (b:Fr S w w'):DT w' S a n c ts:=by
 obtain⟨f,g,d,i,j⟩:=h;exact⟨f,g,d,Eo i b.size,j.keep (fun e l m=>b.block e (by omega) (fun k=>by have:=d e k;omega))⟩
theorem DT.less (h:DT w S a n c ts) (b:∀ g,S' g->S g∨w.heap.size<=g):DT w S' a n c ts:=by
 obtain⟨d,e,f,i,j⟩:=h;exact⟨d,e,fun g k=>(b g k).elim (f g) (fun l=>by omega),i,j⟩
theorem DT.below (h:DT w S a n c ts) (b:Below w.heap.size w w'):DT w' S a n c ts:=h.fr (Fr.of_below b)
theorem DT.len (h:DT w S a n c ts):ts.length=n:=by
 obtain⟨d,e,f,g,b⟩:=h;exact b.1
theorem nT {k:ByteArray} (h:cy k=true):k.size<=8:=by
 unfold cy at h;simp at h;exact h.2
theorem Cv (h:DT w S a n c ts) (f:∀ g,S' g->g<w.heap.size) (s:n<=1000) (i:∀ x ∈ ts,be x) (key:ByteArray) :
  Calls prog 59 #[.agg #[.slice a n c],.string key] w fun e w'=>∃ b d,e=.returned (.agg #[.bool (gG ts key).1,.slice b (gG ts key).2.length d])∧DT w' S' b (gG ts key).2.length d (gG ts key).2∧Below w.heap.size w w':=by
 obtain⟨j,k,t,l,m⟩:=h;refine (vT ts a n c j k w l m (by omega) i key).mono ?_;rintro e w' ⟨b,d,o,p,q⟩;exact⟨b,d,o,⟨_,_,fun g r=>.inl (f g r),Ek _,p⟩,q⟩
theorem Cw (h:DT w S a n c ts) (f:∀ g,S' g->g<w.heap.size) (s:n<=1000) (i:∀ x ∈ ts,be x) (key val:ByteArray) (t:key.size<=1000) (u:val.size<=1000) :
  Calls prog 60 #[.agg #[.slice a n c],.string key,.string val] w fun e w'=>∃ b d,e=.returned (.agg #[.bool (dx ts key val).1,.slice b (dx ts key val).2.length d])∧DT w' S' b (dx ts key val).2.length d (dx ts key val).2∧Below w.heap.size w w':=by
 obtain⟨j,k,v,l,m⟩:=h;refine (vK ts a n c j k w l m (by omega) i key val (by omega) (by omega)).mono ?_;rintro e w' ⟨b,d,o,p,q⟩;exact⟨b,d,o,⟨_,_,fun g r=>.inl (f g r),Ek _,p⟩,q⟩
theorem qf (C A B:Nat) (w:World) (h:dk w C A B) (a:Option Addr) (n c:Nat) (ts:List TN) (u:T) (m:Nat) (L:List Int) (S:Nat->Prop) (aw:∀ g,S g->g<w.heap.size) (ax:S C) (ay:DT w S a n c ts) (az:dB ts u m L) (q:Nat) (a8:m+q<=400) :
  Calls prog 50 #[.pointer (some ⟨C,0,none⟩),.agg #[.slice a n c],.int .i64 q] w fun b w'=>∃ (f:Option Addr) (d j:Nat) (p:List TN) (M:T),b=.returned (.agg #[.slice f d j])∧DT w' S f d j p∧dB p M (m+q) L∧dk w' C A B∧Fr (fun g=>g=C) w w':=by
 have a9:=h.lt;obtain⟨N,V⟩:=Zn w.heap.size;obtain⟨W,ae⟩:∃ W,W=((w.alloc (.cells #[.slice a n c] 25)).alloc (.cells #[.slice none 0 0] 25)):=⟨_,rfl⟩;have aA:=bH w (.cells #[.slice a n c] 25) (.cells #[.slice none 0 0] 25);rw[<-ae,V] at aA;obtain⟨E,r,aR,X⟩:=aA;have aB:=hidI (h.below (by rw[V];exact X));have aC:Hid (DT W (fun g=>S g∨g=N∨g=N+1) a n c ts):=by
  have aS:DT w (fun g=>S g∨g=N∨g=N+1) a n c ts:=ay.less (fun g b=>by
   rcases b with b | b | b;·exact .inl b
   ·exact .inr (by omega)
   ·exact .inr (by omega))
  exact aS.below (by rw[V];exact X)
 have aD:Hid (Fr (fun g=>g=C) w W):=Fr.of_below (by rw[V];exact X);have k:=hidI az;clear h ay az;go_enter func50,ntmps50;go_upto_region 1 with fail
 rw[<-ae];clear ae;go_wp2_with fail
 go_loopw [7] (fun i wr=>∃ (s:Nat) (f:Option Addr) (d j:Nat) (p:List TN) (M:T),s<=q∧i=.int .i64 s∧wr.heap[N]?=some (.cells #[.slice f d j] 25)∧wr.heap[N+1]?=some (.cells #[.slice none 0 0] 25)∧Hid (dk wr C A B)∧Hid (DT wr (fun g=>S g∨g=N∨g=N+1) f d j p)∧Hid (dB p M (m+s) L)∧Hid (Fr (fun g=>g=C) w wr)) (fun i _=>q - (intOf i).toNat)
 case atStart=>exact⟨0,a,n,c,ts,u,En _,rfl,E,r,aB,aC,k,aD⟩
 case round =>
  clear E r aB aC k aD X aR;obtain⟨s,f,d,j,p,M,a',rfl,E,r,ag,ai,k,ak⟩:=hrel;have aE:=Za E;have aF:=Za r;have Y:=ah E;have aT:=ah r;by_cases ba:s<q
  ·go_wp2_with fail
   refine (iK C A B wr ag.out).mono ?_;rintro b aU ⟨I,rfl,al,aG,aH⟩;have aV:=hidI al;have bb:=nT al;clear al;go_wp2_with fail
   refine (bo C A B aU aG 4 (by omega) (by omega)).mono ?_;rintro b aW ⟨x,rfl,bc,Z,aI⟩;have O:=aH.trans aI;have J:=(O.block N aE (by omega)).trans E;have P:=(O.block (N+1) aF (by omega)).trans r;have aa:=hidI (ai.out.fr (O.weak (fun g b=>.inl (by rw[b];exact ax))));have am:=hidI (ak.out.trans O);clear aG aH aI Y aT ai ag ak E r O aE aF;by_cases aX:x=0
   focus
     subst aX;have Y:=ah J;have F:=Za J;have G:=Za P;have aY:=Z.lt;have an:d<=1000:=(by have:=k.out.few;have:=aa.out.len;omega);have l:=Cv (S':=fun g=>S g∨g=N∨g=N+1) aa.out (fun g b=>b.elim (fun b=>by have:=aw g b;omega) (fun b=>by omega)) an k.out.lens I;obtain⟨ao,H⟩:=Zn (gG p I);have ap:=hidI H;rw[H] at l;clear H;obtain⟨aJ,K⟩:=ao;dsimp only at l;obtain⟨t,Q⟩:=Zn K.length;rw[Q] at l;clear Q;(go_wp2_with fail);refine l.mono ?_;rintro b R ⟨y,z,rfl,ab,o⟩;have D:=(o.block N F).trans J;have aq:=(o.block (N+1) G).trans P;have aZ:=ah D;have a0:=ar D;have a1:=Za D;obtain⟨ac,ad⟩:=k.out.del (key:=I) (by omega);have aK:Hid (dB K ac (m+(s+1)) L):=(by have:=ad;rw[ap.out] at this;exact this);have e:=af R N 0 (.slice y t z);have aL:=hidI (ab.fr (e.weak (fun g b=>.inr (.inl b))));have aM:=hidI ((Z.below o).frg e (fun g b=>by omega));have aN:=hidI ((am.out.trans (Fr.of_below o)).up2 e (fun g b=>by omega))
   rotate_left
   focus
     have bd:((x:Int) == 0)=false:=(by simp;omega);(go_wp2_with fail);refine (rV C A B aW Z).mono ?_;rintro b be ⟨au,rfl,a2,aO,U⟩;have F:=Za J;have G:=Za P;have av:=(U.block N F (by omega)).trans J;have aP:=(U.block (N+1) G (by omega)).trans P;have aQ:=hidI (aa.out.fr (U.weak (fun g b=>.inl (by rw[b];exact ax))));have a3:=hidI (am.out.trans U);clear Z U aa am J P F G;have Y:=ah av;have F:=Za av;have G:=Za aP;have aY:=aO.lt;have an:d<=1000:=(by have:=k.out.few;have:=aQ.out.len;omega);have l:=Cw (S':=fun g=>S g∨g=N∨g=N+1) aQ.out (fun g b=>b.elim (fun b=>by have:=aw g b;omega) (fun b=>by omega)) an k.out.lens I au (by omega) (by omega);obtain⟨ao,H⟩:=Zn (dx p I au);have ap:=hidI H;rw[H] at l;clear H;obtain⟨aJ,K⟩:=ao;dsimp only at l;obtain⟨t,Q⟩:=Zn K.length;rw[Q] at l;clear Q;(go_wp2_with fail);refine l.mono ?_;rintro b R ⟨y,z,rfl,ab,o⟩;have D:=(o.block N F).trans av;have aq:=(o.block (N+1) G).trans aP;have aZ:=ah D;have a0:=ar D;have a1:=Za D;obtain⟨ac,ad⟩:=k.out.put (key:=I) (val:=au) aV.out a2 (by omega);have aK:Hid (dB K ac (m+(s+1)) L):=(by have:=ad;rw[ap.out] at this;exact this);have e:=af R N 0 (.slice y t z);have aL:=hidI (ab.fr (e.weak (fun g b=>.inr (.inl b))));have aM:=hidI ((aO.below o).frg e (fun g b=>by omega));have aN:=hidI ((a3.out.trans (Fr.of_below o)).up2 e (fun g b=>by omega))
   rotate_left
   all_goals
     have a4:Hid ((R.setCell ⟨N,0,none⟩ (.slice y t z)).heap[N]?=some (.cells #[.slice y t z] 25)):=(by show _=_;simpa using aj D 0 (.slice y t z));have a5:=hidI ((e.block (N+1) (Za aq) (by omega)).trans aq);have bf:=qU aJ y t z R;clear l Y F G ad ab o e;(go_wp2_with fail);go_roundw
     case rel=>exact⟨s+1,y,t,z,K,ac,by omega,by go_num,a4.out,a5.out,aM,aL,aK,aN⟩
     case measure=>simp[intOf];omega
  ·obtain rfl:s=q:=(by omega);have bg:=ar r;have e:=af wr (N+1) 0 (.slice f d j);have a6:(wr.setCell ⟨N+1,0,none⟩ (.slice f d j)).heap[N+1]?=some (.cells #[.slice f d j] 25):=(by simpa using aj r 0 (.slice f d j));have a7:=ah a6;go_wp2_with fail
   refine bodyPost_ret (v:=.agg #[.slice f d j]) (by simp[results,results50,go_sem,a7]) rfl ?_;exact⟨f,d,j,p,M,rfl,(ai.out.fr (e.weak (fun g b=>.inr (.inr b)))).less (fun g b=>.inl (.inl b)),k.out,ag.out.frg e (fun g b=>by omega),ak.out.up2 e (fun g b=>by omega)⟩
theorem oL (a:Option Addr) (n c:Nat) (p q:Value) (w:World):(Instr.field 31 (.agg #[.slice a n c,p,q]) 0).run prog w=.ok (.agg #[.slice a n c]) w:=by
 simp[Instr.field,asAgg,go_sem]
theorem zE:dB [⟨true,0,[],[],[],[]⟩] br 0 []:=by
 have e:br.nodes<=1000:=by rw[T.nodes_eq];simp[br]
 obtain⟨b,c,_⟩:=xx vU e;have f:br.flat 0=[⟨true,0,[],[],[],[]⟩]:=by simp[br,T.flat]
 rw[f] at b c;have d:=vU;refine⟨⟨b,c,d.neat,d.nums⟩,?_,fun x a=>?_,fun x a=>?_,by simp⟩;·rw[T.slots_eq];simp[br]
 ·simp[br,T.nums] at a
 ·simp at a;subst a;exact⟨by simp,by simp,by simp,by simp⟩
theorem uk {u:T} {m:Nat} (h:dB ts u m []) (f:m<=25):∃ b a,dB (AY ts) b m a:=by
 have c:u.nums=[]:=by
  rcases hu:u.nums with _ | ⟨x,g⟩;·rfl
  ·have:=h.sub x (by rw[hu];exact Et ..);simp at this
 have i:Cn (nX u.nums)=0:=by rw[c];show ((List.replicate 1000 false).drop 2).count true=0;rw[List.drop_replicate,List.count_replicate];rfl
 obtain⟨d,a,e⟩:=h.place (s:=nX u.nums) (ui _) rfl (by omega);refine⟨(ai u (nX u.nums)).1,a,?_⟩;unfold AY;rw[h.st.top];simp only[];rw[d];exact e
theorem AZ (h:DT w S a n c ts) (k:∀ g,S' g->g<w.heap.size) (i:Nat) :
  Calls prog 5 #[.agg #[.slice a n c],.int .i64 3,.slice (some ⟨i,0,none⟩) 0 0] w fun j w'=>∃ b d e f,j=.returned (.agg #[.slice b (AY ts).length d,e,f])∧DT w' S' b (AY ts).length d (AY ts)∧Below w.heap.size w w':=by
 obtain⟨l,m,u,o,p⟩:=h;refine (qX ts a n c l m w o p 3 (by omega) (by omega) (some ⟨i,0,none⟩) 0 (by unfold maxLen;omega)).mono ?_;rintro j w' ⟨b,d,e,f,q,r,s⟩;exact⟨b,d,e,f,q,⟨_,_,fun g t=>.inl (k g t),Ek _,r⟩,s⟩
theorem qx (C A B:Nat) (w:World) (h:dk w C A B) (S:Nat->Prop) (ai:∀ g,S g->g<w.heap.size) (H:S C) :
  Calls prog 30 #[.pointer (some ⟨C,0,none⟩)] w fun b w'=>∃ (a:Option Addr) (n c:Nat) (ts:List TN) (bB:T) (bC:List Int),b=.returned (.agg #[.slice a n c])∧DT w' S a n c ts∧dB ts bB 29 bC∧dk w' C A B∧Fr (fun g=>g=C) w w':=by
 have b5:=h.lt;obtain⟨N,bD⟩:=Zn w.heap.size;have ak:=Ej w (.cells #[.slice none 0 0] 25);have al:=Zb w (.cells #[.slice none 0 0] 25);have aw:(w.alloc (.cells #[.slice none 0 0] 25)).heap.size=w.heap.size+1:=by simp
 have ax:=h.below al;have ay:Fr (fun g=>g=C) w _:=Fr.of_below al;go_enter func30,ntmps30;go_upto_region 1 with fail
 generalize w.alloc (.cells #[.slice none 0 0] 25)=bE at ak al aw ax ay ⊢;rw[bD] at ak aw;clear h al;go_wp2_with fail
 refine (tQ bE).mono ?_;rintro b aT ⟨aU,rfl,aV,V,_⟩;have aW:=ax.below V;have aX:=ay.trans (Fr.of_below V);have bF:=V.size;have aY:=(V.block N (by omega)).trans ak;have aZ:DT aT (fun g=>S g∨g=N) (some ⟨aU,0,none⟩) 1 1 [⟨true,0,[],[],[],[]⟩]:=⟨_,_,fun g b=>.inl (b.elim (fun b=>by have:=ai g b;omega) (fun b=>by omega)),Ek _,aV⟩;have a0:=hidI aZ;have a1:=hidI aX;clear ax ay aV V ak aZ aX;go_wp2_with fail
 refine (bo C A B aT aW 26 (by omega) (by omega)).mono ?_;rintro b bG ⟨bH,rfl,b6,a2,W⟩;have a3:=hidI (a0.out.fr (W.weak (fun g b=>.inl (by rw[b];exact H))));have a4:=hidI (a1.out.trans W);have a5:=(W.block N (by omega) (by omega)).trans aY;have bI:=W.size;clear aW W aY a0 a1;have az:=qf C A B bG a2 (some ⟨aU,0,none⟩) 1 1 _ br 0 [] (fun g=>S g∨g=N) (fun g b=>b.elim (fun b=>by have:=ai g b;omega) (fun b=>by omega)) (.inl H) a3.out zE bH (by omega);rw[EK] at az;go_upto_region 2 with (go_at_call 50;refine az.mono ?_;rintro b I ⟨k,l,m,am,a6,rfl,a7,a8,a9,an⟩)
 have a':=(an.block N (by omega) (by omega)).trans a5;have bJ:=an.size;have X:=Ej I (.cells #[.slice k l m] 25);have J:=Zb I (.cells #[.slice k l m] 25);have aA:Hid (dB am a6 25 []):=a8.more (by omega);have ao:Hid (DT (I.alloc (.cells #[.slice k l m] 25)) (fun g=>S g∨g=N∨g=I.heap.size) k l m am):=DT.below (a7.less (fun g b=>by
  rcases b with b | b | b;·exact .inl (.inl b)
  ·exact .inl (.inr b)
  ·exact .inr (by omega))) J
 have aB:=a9.below J;have aC:=hidI ((a4.out.trans an).trans (Fr.of_below J));have aD:=(J.block N (by omega)).trans a';obtain⟨Lb,j⟩:=Zn I.heap.size;have aE:=J.size;generalize I.alloc (.cells #[.slice k l m] 25)=bK at X ao aB aC aD aE ⊢;have Y:=Za X;rw[j] at X ao Y aE ⊢;have b7:N<Lb:=by omega
 clear az a8 a7 a9 an J a' a2 a5 a3 a4 bJ bI bF aw;have b8:C<N:=by omega
 clear j;go_wp2_with fail
 refine (bo C A B bK aB 3 (by omega) (by omega)).mono ?_;rintro b Z ⟨x,rfl,b9,aF,K⟩;have aG:=hidI (ao.out.fr (K.weak (fun g b=>.inl (by rw[b];exact H))));have aH:=hidI (aC.out.trans K);have L:=(K.block Lb Y (by omega)).trans X;have M:=(K.block N (by omega) (by omega)).trans aD;have bL:=K.size;clear aB K X aD ao aC;by_cases bM:x=0
 ·subst bM;have aI:=ah L;have ap:=Za L;have bN:=ar M;have bO:=Za M;have bP:=ah M;have i:=af Z N 0 (.slice k l m);have aJ:(Z.setCell ⟨N,0,none⟩ (.slice k l m)).heap[N]?=some (.cells #[.slice k l m] 25):=(by simpa using aj M 0 (.slice k l m));have aK:=ah aJ;go_wp2_with fail
  refine bodyPost_ret (v:=.agg #[.slice k l m]) (by simp[results,results30,go_sem,aK]) rfl ?_;exact⟨k,l,m,am,a6,[],rfl,(aG.out.fr (i.weak (fun g b=>.inr (.inl b)))).less (fun g b=>.inl (.inl b)),aA.out.more (by omega),aF.frg i (fun g b=>by omega),aH.out.up2 i (fun g b=>by omega)⟩
 ·have b':(0:Int)<(x:Int):=(by omega);have aI:=ah L;have ap:=Za L;have p:=Zb Z (.cells #[] 2);have aL:=(p.block Lb ap).trans L;have aa:=AZ (S':=fun g=>S g∨g=N∨g=Lb) (aG.out.below p) (fun g b=>b.elim (fun b=>by have:=ai g b;have:=p.size;omega) (fun b=>by have:=p.size;omega)) Z.heap.size;obtain⟨ba,bb⟩:=Zn (AY am);obtain⟨bQ,aM,aN⟩:=uk aA.out (by omega);rw[bb] at aa aN;obtain⟨u,bc⟩:=Zn ba.length;rw[bc] at aa;have bR:=hidI aN;clear bb bc aN aA;have aO:=aF.below p;have aP:=hidI (aH.out.trans (Fr.of_below p));have aQ:=(p.block N (by omega)).trans M;have bd:=p.size;go_wp2_with fail
  generalize Z.alloc (.cells #[] 2)=ca at p aL aa aO aP aQ bd ⊢;refine aa.mono ?_;rintro b aq ⟨z,E,bS,bT,rfl,be,O⟩;have ab:=(O.block Lb (by omega)).trans aL;have bf:=(O.block N (by omega)).trans aQ;have bg:=aO.below O;have bh:=hidI (aP.out.trans (Fr.of_below O));have bU:=O.size;have bV:=oL z u E bS bT aq;have bW:=ar ab;have bX:=Za ab;have bY:=ah ab;have i:=af aq Lb 0 (.slice z u E);have bi:=hidI (be.fr (i.weak (fun g b=>.inr (.inr b))));have bj:=bg.frg i (fun g b=>by omega);have bk:=hidI (bh.out.up2 i (fun g b=>by omega));have aR:(aq.setCell ⟨Lb,0,none⟩ (.slice z u E)).heap[Lb]?=some (.cells #[.slice z u E] 25):=(by simpa using aj ab 0 (.slice z u E));have bl:=(i.block N (by omega) (by omega)).trans bf;have bZ:=i.size;clear aa be O bg bh L aL aO aP aQ p aI ap aG aH aF M;go_upto_region 4 with fail
  generalize aq.setCell ⟨Lb,0,none⟩ (.slice z u E)=aS at i bi bj bk aR bl bZ ⊢;clear bV bW bX bY i ab bf;clear bU bd bL aE Y;have Y:=Za aR;go_cut [] (fun wx=>∃ (d:Option Addr) (e f:Nat) (q:List TN) (F:T) (au:List Int),wx.heap[Lb]?=some (.cells #[.slice d e f] 25)∧wx.heap[N]?=some (.cells #[.slice none 0 0] 25)∧Hid (DT wx (fun g=>S g∨g=N∨g=Lb) d e f q∧dB q F 29 au∧dk wx C A B∧Fr (fun g=>g=C) w wx))
  case first =>
   have P:=(Ev aS.heap.size aS).drew;refine Zg (fun _:World=>True) (trivial) (fun s=>?_);clear s;generalize aS.drew=D at P ⊢;have s:=trivial;have bm:=bj.below P;have bn:=hidI (bi.out.below P);have bp:=hidI (bk.out.trans (Fr.of_below P));have av:=(P.block Lb Y).trans aR;have bq:=(P.block N (by omega)).trans bl;have bs:=Za av;have cb:=ah av;refine Zx .a0 ?_;refine Zx .a2 ?_;try simp only[Zq]
   refine Zr [1,3] ?_;refine rdA .a1 (fun r j=>?_) ?_;rotate_left 1;refine rdA .a3 (fun r j=>?_) ?_;rotate_left 1;exact Ei
   focus
     go_simp;refine j.out _ _ (trivial) (fun s=>?_);clear j r;(try simp only[Zq]);refine Zr [3] ?_;refine rdA .a3 (fun r j=>?_) Ei;go_simp;refine (bo C A B D bm 5 (by omega) (by omega)).mono ?_;rintro b bt ⟨y,rfl,b0,bu,o⟩;have bv:=hidI (bn.out.fr (o.weak (fun g b=>.inl (by rw[b];exact H))));have bw:=hidI (bp.out.trans o);have Q:=(o.block Lb bs (by omega)).trans av;have bx:=(o.block N (by omega) (by omega)).trans bq;have b1:=o.size;have b2:=ah Q;have bz:=Za Q;go_wp2_with fail
   rotate_left
   focus
     go_simp;refine (bo C A B D bm 5 (by omega) (by omega)).mono ?_;rintro b bt ⟨y,rfl,b0,bu,o⟩;have bv:=hidI (bn.out.fr (o.weak (fun g b=>.inl (by rw[b];exact H))));have bw:=hidI (bp.out.trans o);have Q:=(o.block Lb bs (by omega)).trans av;have bx:=(o.block N (by omega) (by omega)).trans bq;have b1:=o.size;have b2:=ah Q;have bz:=Za Q;(go_wp2_with fail);refine j.out _ _ (trivial) (fun s=>?_);clear j r;(try simp only[Zq]);refine Zr [1] ?_;refine rdA .a1 (fun r j=>?_) Ei;go_simp
   rotate_left
   all_goals
     refine j.out _ _ (trivial) (fun s=>?_);clear j r;(try simp only[Zq]);refine Zr [4] ?_;refine rdA .a4 (fun r j=>?_) Ei;go_simp;refine (qf C A B bt bu z u E ba bQ 25 aM (fun g=>S g∨g=N∨g=Lb) (fun g b=>b.elim (fun b=>by have:=ai g b;omega) (fun b=>by omega)) (.inl H) bv.out bR.out y (by omega)).mono ?_;rintro b ac ⟨d,e,f,q,F,rfl,ad,ae,ag,t⟩;have G:=(t.block Lb bz (by omega)).trans Q;have R:=(t.block N (by omega) (by omega)).trans bx;have cc:=t.size;have cd:=ah G;have ce:=ar G;have cf:=Za G;have i:=af ac Lb 0 (.slice d e f);have U:Hid (DT (ac.setCell ⟨Lb,0,none⟩ (.slice d e f)) (fun g=>S g∨g=N∨g=Lb) d e f q∧dB q F 29 aM∧dk (ac.setCell ⟨Lb,0,none⟩ (.slice d e f)) C A B∧Fr (fun g=>g=C) w (ac.setCell ⟨Lb,0,none⟩ (.slice d e f))):=⟨ad.fr (i.weak (fun g b=>.inr (.inr b))),ae.more (by omega),ag.frg i (fun g b=>by omega),(bw.out.trans t).up2 i (fun g b=>by omega)⟩;have b3:Hid ((ac.setCell ⟨Lb,0,none⟩ (.slice d e f)).heap[Lb]?=some (.cells #[.slice d e f] 25)):=(by show _=_;simpa using aj G 0 (.slice d e f));have b4:=hidI ((i.block N (by omega) (by omega)).trans R);clear ad ae ag t i;(go_wp2_with fail);refine j.out _ _ (trivial) (fun s=>?_);clear j r;(try simp only[Zq]);refine Zr [5] ?_;refine rdA .a5 (fun r j=>?_) Ei;go_simp;refine j.out _ _ (trivial) (fun s=>?_);clear j r;(try simp only[Zq]);refine Zd ?_;clear s;(go_wp2_with fail);go_meet
     exact⟨d,e,f,q,F,aM,b3.out,b4.out,U⟩
  case rest =>
   obtain⟨d,e,f,q,F,au,G,R,bA⟩:=hcut;obtain⟨ad,ae,ag,t⟩:=bA.out;have aI:=ah G;have ap:=Za G;have bN:=ar R;have bO:=Za R;have bP:=ah R;have i:=af wc N 0 (.slice d e f);have aJ:(wc.setCell ⟨N,0,none⟩ (.slice d e f)).heap[N]?=some (.cells #[.slice d e f] 25):=(by simpa using aj R 0 (.slice d e f));have aK:=ah aJ;have U:Hid (DT (wc.setCell ⟨N,0,none⟩ (.slice d e f)) S d e f q∧dB q F 29 au∧dk (wc.setCell ⟨N,0,none⟩ (.slice d e f)) C A B∧Fr (fun g=>g=C) w (wc.setCell ⟨N,0,none⟩ (.slice d e f))):=⟨(ad.fr (i.weak (fun g b=>.inr (.inl b)))).less (fun g b=>.inl (.inl b)),ae,ag.frg i (fun g b=>by omega),t.up2 i (fun g b=>by omega)⟩;clear ad ae ag t bA i;go_wp2_with fail
   refine bodyPost_ret (v:=.agg #[.slice d e f]) (by simp[results,results30,go_sem,aK]) rfl ?_;exact⟨d,e,f,q,F,au,rfl,U.out.1,U.out.2.1,U.out.2.2.1,U.out.2.2.2⟩
structure qY (w:World) (base g n c:Nat) (H:Nat->List Value) (U:Nat->Nat->Value) (D:Nat->Nat->List Value):Prop where
 row:w.ownsRow base 44 6 (.slice (some ⟨g,0,none⟩) n c) n (az H n)
 data:∀ i,i<n->∀ r,r<4->w.ownsRow base (oP r) 1 (U i r) (D i r).length (D i r)
 apart:∀ i r j s,i<n->j<n->r<4->s<4->¬ (i=j∧r=s)->∀ q,(U i r).ownBlock=some q->(U j s).ownBlock≠some q
def wd (g n:Nat) (U:Nat->Nat->Value) (q:Nat):Prop:=q=g∨∃ i r,i<n∧r<4∧(U i r).ownBlock=some q
theorem qY.lt (h:qY w base g n c H U D) {q:Nat} (a:wd g n U q):base<=q∧q<w.heap.size:=by
 rcases a with rfl | ⟨i,b,d,e,f⟩;·exact h.row.lt _ rfl
 ·exact (h.data i d b e).lt q f
theorem qY.fr (h:qY w base g n c H U D) (d:Fr S w w') (e:∀ a,wd g n U a->¬ S a):qY w' base g n c H U D :=
 ⟨am h.row d (fun a b=>e a (.inl (Option.some.inj b).symm)),fun i f j k=>am (h.data i f j k) d (fun a b=>e a (.inr ⟨i,j,f,k,b⟩)),h.apart⟩
theorem qY.below (h:qY w base g n c H U D) (a:Below w.heap.size w w'):qY w' base g n c H U D:=h.fr (S:=fun _=>False) (Fr.of_below a) (fun _ _ b=>b)
def r8 {α:Type} (U:Nat->Nat->α) (i r:Nat) (u:α):Nat->Nat->α:=fun j s=>if j=i∧s=r then u else U j s
theorem qY.app (h:qY w base g n c H U D) {i r:Nat} (x:i<n) (y:r<4) {u:Value} {zs:List Value} (B:w'.ownsRow base (oP r) 1 u zs.length zs) (z:Fr (fun a=>(U i r).ownBlock=some a) w w') (A:∀ a,u.ownBlock=some a->(U i r).ownBlock=some a∨w.heap.size<=a):qY w' base g n c H (r8 U i r u) (r8 D i r zs):=by
 refine⟨am h.row z (fun f b C=>gL h.row (h.data i x r y) f C b),fun d j e k=>?_,fun d e l f j q k s t a m=>?_⟩
 ·by_cases b:d=i∧e=r;·obtain⟨rfl,rfl⟩:=b;simp only[r8,and_self,if_true];exact B
  ·simp only[r8,if_neg b];exact am (h.data d j e k) z (fun a E o=>h.apart d e i r j x k y b a E o)
 ·by_cases b:d=i∧e=r
  ·obtain⟨rfl,rfl⟩:=b;have o:¬ (l=d∧f=e):=fun b=>t ⟨b.1.symm,b.2.symm⟩;simp only[r8,and_self,if_true] at m;simp only[r8,if_neg o];rcases A a m with p | p;·exact h.apart d e l f j q k s t a p
   ·exact fun v=>by have:=((h.data l q f s).lt a v).2;omega
  ·simp only[r8,if_neg b] at m;by_cases o:l=i∧f=r
   ·obtain⟨rfl,rfl⟩:=o;simp only[r8,and_self,if_true];intro v;rcases A a v with p | p;·exact h.apart d e l f j q k s t a m p
    ·have:=((h.data d j e k).lt a m).2;omega
   ·simp only[r8,if_neg o];exact h.apart d e l f j q k s t a m
theorem qY.head (h:qY w base g n c H U D) (s:∀ i,i<n->(H i).length=6) {i:Nat} (J:i<n) (d e u2 f j k:Value):qY (aK w g (i*6) d e u2 f j k) base g n c (fun a=>if a=i then [d,e,u2,f,j,k] else H a) U D∧Fr (fun b=>b=g) w (aK w g (i*6) d e u2 f j k):=by
 have p:=cu (css:=H) (m:=n) s;obtain⟨l,o⟩:=iL [d,e,u2,f,j,k] (i*6) w (az H n) h.row (by rw[p.1];simp;omega);have q:w.setCells g (i*6) [d,e,u2,f,j,k]=aK w g (i*6) d e u2 f j k:=rfl;rw[q] at l o;refine⟨⟨?_,fun t u v x=>am (h.data t u v x) o (fun b B C=>gL h.row (h.data t u v x) b B (by rw[C];rfl)),h.apart⟩,o⟩;have E:∀ a,a<n->((fun a=>if a=i then [d,e,u2,f,j,k] else H a) a).length=6:=fun a F=>by
  by_cases q:a=i;·simp[q]
  ·simp only[if_neg q];exact s a F
 have y:=cu (css:=fun a=>if a=i then [d,e,u2,f,j,k] else H a) (m:=n) E;have G:(List.take (i*6) (az H n)++[d,e,u2,f,j,k])++List.drop (i*6+6) (az H n)=az (fun a=>if a=i then [d,e,u2,f,j,k] else H a) n:=by
  refine List.ext_getElem? fun b=>?_;by_cases K:b<n*6
  ·have z:=p.2 (b / 6) (b % 6) (by omega) (by omega);have A:=y.2 (b / 6) (b % 6) (by omega) (by omega);have I:b / 6*6+b % 6=b:=(by omega);rw[I] at z A;rw[A];have r:(List.take (i*6) (az H n)).length=i*6:=(by rw[Eu,p.1];omega);by_cases l:b / 6=i
   ·simp only[if_pos l];rw[EA,EB (by omega),r,EE (by simp;omega)]
    congr 1
    omega
   ·simp only[if_neg l];rw[<-z];by_cases o:b<i*6;·rw[EA,EE (by omega),E9,if_pos o]
    ·rw[EB (by simp[r];omega),El,r,E2]
     congr 1
     simp;omega
  ·rw[List.getElem?_eq_none (by simp[p.1];omega),List.getElem?_eq_none (by rw[y.1];omega)]
 rw[<-G];exact l
theorem qY.nodes (h:qY w base g n c H U D) (d:ts.length=n) (k:∀ i,i<n->H i=iI (ts.getD i dT).nd (U i)) (l:∀ i,i<n->∀ b,b<4->D i b=(ts.getD i dT).nd.l b) (m:∀ x ∈ ts,qc x):aw w base w.heap.size (some ⟨g,0,none⟩) n c ts:=by
 have f:∀ i,i<n->(ts.map TN.nd).getD i dN=(ts.getD i dT).nd:=fun i a=>by have o:i<ts.length:=(by omega);simp[List.getD,Eh o]
 refine cj.nodesF (us:=U) ⟨?_,fun i a b e=>?_,fun i b p q a j e r s=>?_⟩ d.symm m;·rw[EZ,d,cZ (css:=H) (fun i a=>by rw[f i a,k i a])];exact h.row
 ·rw[EZ,d] at a;rw[f i a,<-l i a b e];exact h.data i a b e
 ·rw[EZ,d] at a j;exact h.apart i b p q a j e r s
theorem CC (h:cj w base (.slice (some ⟨g,0,none⟩) n c) (ts.map TN.nd) us) (l:ts.length=n):qY w base g n c (fun i=>iI (ts.getD i dT).nd (us i)) us (fun i b=>(ts.getD i dT).nd.l b):=by
 have f:∀ i,i<n->(ts.map TN.nd).getD i dN=(ts.getD i dT).nd:=fun i a=>by have d:i<ts.length:=(by omega);simp[List.getD,Eh d]
 have d:=h.row;have j:=h.data;have k:=h.apart;rw[EZ,l] at d j k;refine⟨?_,fun i a b e=>?_,fun i b m o a p e q r=>k i b m o a p e q r⟩;·rw[cZ (css:=fun i=>iI ((ts.map TN.nd).getD i dN) (us i)) (fun i a=>by simp only[f i a])];exact d
 ·have:=j i a b e;rw[f i a] at this;exact this
theorem yB (h:aw w A B a n c ts):∀ x ∈ ts,qc x:=fun x d=>by
 obtain⟨i,e,rfl⟩:=List.mem_iff_getElem.1 d
 have g:=h.1
 obtain⟨j,k,l,_,f⟩:=h.2.2.2 (by omega)
 obtain⟨m,o,p,q,r,s,t,on,u,v,y,z,b⟩:=f i (by omega)
 rw[show ts.getD i dT=ts[i] by simp[List.getD,Eh e]] at b
 exact⟨b.page,aT b.keys,aT b.vals,aT b.over,aT b.kids⟩
theorem we (x:Int):ga (IntKind.i64.wrap x):=by
 rw[Fa];unfold ga;omega
theorem qY.congr {f:Nat->Nat->Value} {j:Nat->Nat->List Value} (h:qY w base g n c H U D) (e:∀ i,i<n->∀ a,a<4->f i a=U i a) (p:∀ i,i<n->∀ a,a<4->j i a=D i a):qY w base g n c H f j :=
 ⟨h.row,fun i b a d=>by rw[e i b a d,p i b a d];exact h.data i b a d,fun i a k l b m d o q r=>by rw[e i b a d,e k m l o];exact h.apart i a k l b m d o q r⟩
structure ca (w wx:World) (C A B N Lb M g n cc i:Nat) (ts:List TN) (us:Nat->Nat->Value) (x:TN) (U:Nat->Nat->Value):Prop where
 kL:wx.heap[Lb]?=some (.cells #[.slice (some ⟨g,0,none⟩) n cc] 25)
 kN:wx.heap[N+1]?=some (.cells #[.slice none 0 0] 25)
 kM:wx.heap[M]?=some (.cells #[.bool x.leaf,.int .i64 x.page,U i 0,U i 1,U i 2,U i 3] 44)
 sp:qY wx (N+2) g n cc (fun j=>iI (ts.getD j dT).nd (us j)) U (fun j r=>if j=i then x.nd.l r else (ts.getD j dT).nd.l r)
 off:∀ q,wd g n U q->q≠Lb∧q≠M
 oth:∀ j r,j≠i->U j r=us j r
 fit:qc x
 len:be x
 cur:dk wx C A B
 fr:Fr (fun q=>q=C) w wx
 szN:w.heap.size=N
 ord:N+2<=Lb∧Lb<M∧C<N
 hi:i<n
theorem ca.ls (h:ca w wx C A B N Lb M g n cc i ts us x U) {r:Nat} (a:r<4):wx.ownsRow (N+2) (oP r) 1 (U i r) (x.nd.l r).length (x.nd.l r):=by
 have:=h.sp.data i h.hi r a;simpa using this
theorem ca.keep {e:World} (h:ca w wx C A B N Lb M g n cc i ts us x U) (c:Fr S wx e) (m:dk e C A B) (f:∀ a,S a->a=C∨wx.heap.size<=a):ca w e C A B N Lb M g n cc i ts us x U:=by
 obtain⟨p,q,r⟩:=h.ord;have d:∀ a,a≠C->a<wx.heap.size->¬ S a:=fun a o s b=>(f a b).elim o (fun b=>by omega);have j:=Za h.kL;have k:=Za h.kN;have l:=Za h.kM;exact⟨(c.block Lb j (d _ (by omega) j)).trans h.kL,(c.block (N+1) k (d _ (by omega) k)).trans h.kN,(c.block M l (d _ (by omega) l)).trans h.kM,h.sp.fr c (fun a b=>d a (by have:=h.sp.lt b;omega) (h.sp.lt b).2),h.off,h.oth,h.fit,h.len,m,h.fr.up3 c (fun a b=>(f a b).elim .inl (fun b=>.inr (Eo h.fr.size b))),h.szN,h.ord,h.hi⟩
theorem ca.below {a:World} (h:ca w wx C A B N Lb M g n cc i ts us x U) (b:Below wx.heap.size wx a):ca w a C A B N Lb M g n cc i ts us x U:=h.keep (S:=fun _=>False) (Fr.of_below b) (h.cur.below b) (fun _ c=>c.elim)
theorem ca.head {k:Nat} {v:Value} (h:ca w wx C A B N Lb M g n cc i ts us x U) (e:(#[.bool x.leaf,.int .i64 x.page,U i 0,U i 1,U i 2,U i 3]:Array Value).setIfInBounds k v=#[.bool y.leaf,.int .i64 y.page,U i 0,U i 1,U i 2,U i 3]) (f:∀ c,y.nd.l c=x.nd.l c) (j:qc y) (l:be y):ca w (wx.setCell ⟨M,k,none⟩ v) C A B N Lb M g n cc i ts us y U:=by
 obtain⟨r,s,t⟩:=h.ord;have b:=af wx M k v;have m:=Za h.kL;have o:=Za h.kN;have u:w.heap.size<=M:=by rw[h.szN];omega
 refine⟨(b.block Lb m (by omega)).trans h.kL,(b.block (N+1) o (by omega)).trans h.kN,by rw[aj h.kM,e],(h.sp.fr b (fun d a p=>(h.off d a).2 p)).congr (fun _ _ _ _=>rfl) (fun q _ c _=>?_),h.off,h.oth,j,l,h.cur.frg b (fun d a=>by omega),h.fr.up2 b (fun d a=>by omega),h.szN,h.ord,h.hi⟩;by_cases a:q=i;·simp only[if_pos a,f]
 ·simp only[if_neg a]
theorem ca.put {f:World} {r:Nat} {zs:List Value} (h:ca w wx C A B N Lb M g n cc i ts us x U) (j:r<4) (o:f.ownsRow (N+2) (oP r) 1 (U i r) zs.length zs) (d:Fr (fun m=>(U i r).ownBlock=some m) wx f) (p:y.leaf=x.leaf) (q:y.page=x.page) (s:y.nd.l r=zs) (t:∀ c,c≠r->y.nd.l c=x.nd.l c) (u:qc y) (v:be y):ca w f C A B N Lb M g n cc i ts us y U:=by
 obtain⟨G,H,I⟩:=h.ord;have e:∀ b,(U i r).ownBlock=some b->N+2<=b∧b≠Lb∧b≠M:=fun b a=>⟨(h.sp.lt (.inr ⟨i,r,h.hi,j,a⟩)).1,h.off b (.inr ⟨i,r,h.hi,j,a⟩)⟩;have z:=Za h.kL;have D:=Za h.kN;have E:=Za h.kM;have F:=h.sp.app h.hi j o d (fun m a=>.inl a);refine⟨(d.block Lb z (fun a=>(e _ a).2.1 rfl)).trans h.kL,(d.block (N+1) D (fun a=>by have:=(e _ a).1;omega)).trans h.kN,by rw[p,q];exact (d.block M E (fun a=>(e _ a).2.2 rfl)).trans h.kM,F.congr (fun k _ c _=>?_) (fun k _ c _=>?_),h.off,h.oth,u,v,h.cur.frg d (fun b a=>by have:=(e b a).1;omega),h.fr.up2 d (fun b a=>by have:=(e b a).1;rw[h.szN];omega),h.szN,h.ord,h.hi⟩
 ·unfold r8;by_cases a:k=i∧c=r;·rw[if_pos a,a.1,a.2]
  ·rw[if_neg a]
 ·unfold r8;by_cases a:k=i
  ·by_cases l:c=r;·simp only[a,l,and_self,if_true,s]
   ·simp only[a,l,and_false,if_true,EO,t c l]
  ·simp only[a,false_and,EO]
theorem ca.app {o f:World} {r:Nat} {zs:List Value} {v8:Value} (h:ca w wx C A B N Lb M g n cc i ts us x U) (p:r<4) (s:Below wx.heap.size wx o) (z:f.ownsRow (N+2) (oP r) 1 v8 zs.length zs) (D:o.grownBy f (U i r).ownBlock) (j:v8.ownBlock=(U i r).ownBlock∨∀ b,v8.ownBlock=some b->o.heap.size<=b) (E:y.leaf=x.leaf) (F:y.page=x.page) (G:y.nd.l r=zs) (H:∀ c,c≠r->y.nd.l c=x.nd.l c) (I:qc y) (J:be y):ca w (f.setCell ⟨M,2+r,none⟩ v8) C A B N Lb M g n cc i ts us y (r8 U i r v8)∧f.heap[M]?=some (.cells #[.bool x.leaf,.int .i64 x.page,U i 0,U i 1,U i 2,U i 3] 44):=by
 obtain⟨V,W,X⟩:=h.ord;have d:=(Fr.of_below s).trans (Fr.of_grown D (fun g a=>a));have K:=s.size;have e:∀ b,(U i r).ownBlock=some b->N+2<=b∧b≠Lb∧b≠M:=fun b a=>⟨(h.sp.lt (.inr ⟨i,r,h.hi,p,a⟩)).1,h.off b (.inr ⟨i,r,h.hi,p,a⟩)⟩;have L:=Za h.kL;have O:=Za h.kN;have P:=Za h.kM;have t:∀ b,v8.ownBlock=some b->(U i r).ownBlock=some b∨wx.heap.size<=b:=fun b a=>by
  rcases j with j | j;·rw[j] at a;exact .inl a
  ·exact .inr (Eo K (j b a))
 have u:∀ b,wd g n (r8 U i r v8) b->b≠Lb∧b≠M:=fun b a=>by
  rcases a with a | ⟨k,c,m,Q,a⟩;·exact h.off b (.inl a)
  ·unfold r8 at a;split at a
   ·rcases t b a with a | a;·exact (e b a).2
    ·omega
   ·exact h.off b (.inr ⟨k,c,m,Q,a⟩)
 have R:=h.sp.app h.hi p z d t;have v:=(d.block M P (fun a=>(e _ a).2.2 rfl)).trans h.kM;have l:=af f M (2+r) v8;have Y:=d.size;refine⟨⟨(l.block Lb (by omega) (by omega)).trans ((d.block Lb L (fun a=>(e _ a).2.1 rfl)).trans h.kL),(l.block (N+1) (by omega) (by omega)).trans ((d.block (N+1) O (fun a=>by have:=(e _ a).1;omega)).trans h.kN),?_,(R.fr l (fun b a S=>(u b a).2 S)).congr (fun _ _ _ _=>rfl) (fun k _ c _=>?_),u,fun k c m=>?_,I,J,(h.cur.frg d (fun b a=>by have:=(e b a).1;omega)).frg l (fun b a=>by omega),(h.fr.up2 d (fun b a=>by have:=(e b a).1;rw[h.szN];omega)).up2 l (fun b a=>by rw[h.szN];omega),h.szN,h.ord,h.hi⟩,v⟩;·rw[aj v,E,F];have T:r=0∨r=1∨r=2∨r=3:=(by omega);rcases T with rfl | rfl | rfl | rfl<;>simp[r8]
 ·unfold r8;by_cases a:k=i
  ·by_cases q:c=r;·simp only[a,q,and_self,if_true,G]
   ·simp only[a,q,and_false,if_true,EO,H c q]
  ·simp only[a,false_and,EO]
 ·unfold r8;rw[if_neg (fun a=>m a.1)];exact h.oth k c m
theorem um {a:Type} {l:List a} {x y:a} (h:y ∈ l.set i x):y ∈ l∨y=x:=by
 rcases List.mem_or_eq_of_mem_set h with h | h;·exact .inl h
 ·exact .inr h
theorem ca.done (h:ca w wx C A B N Lb M g n cc i ts us x U) (e:ts.length=n) (k:∀ y ∈ ts,qc y) (l:∀ y ∈ ts,be y):∃ f,f.length=n∧(∀ y ∈ f,be y)∧aw (aK wx g (i*6) (.bool x.leaf) (.int .i64 x.page) (U i 0) (U i 1) (U i 2) (U i 3)) (N+2) (aK wx g (i*6) (.bool x.leaf) (.int .i64 x.page) (U i 0) (U i 1) (U i 2) (U i 3)).heap.size (some ⟨g,0,none⟩) n cc f∧Fr (fun m=>m=g) wx (aK wx g (i*6) (.bool x.leaf) (.int .i64 x.page) (U i 0) (U i 1) (U i 2) (U i 3)):=by
 obtain⟨o,p⟩:=h.sp.head (fun _ _=>rfl) h.hi (.bool x.leaf) (.int .i64 x.page) (U i 0) (U i 1) (U i 2) (U i 3);have j:∀ a,a<n->(ts.set i x).getD a dT=if a=i then x else ts.getD a dT:=fun a d=>nC ts x dT i a (by rw[e];exact h.hi);refine⟨ts.set i x,by rw[EP,e],fun y c=>?_,?_,p⟩
 ·rcases um c with c | rfl;·exact l y c
  ·exact h.len
 ·refine o.nodes (by rw[EP,e]) (fun a d=>?_) (fun a d q r=>?_) (fun y c=>?_)
  ·rw[j a d];by_cases b:a=i;·simp only[if_pos b];rw[b];rfl
   ·simp only[if_neg b];unfold iI;rw[h.oth a 0 b,h.oth a 1 b,h.oth a 2 b,h.oth a 3 b]
  ·rw[j a d];by_cases b:a=i;·simp only[if_pos b]
   ·simp only[if_neg b]
  ·rcases um c with c | rfl;·exact k y c
   ·exact h.fit
theorem wf (x:ByteArray):∀ (a:List ByteArray) (i:Nat),(aa ae a).set i (.string x)=aa ae (a.set i x)
 | [],i=>by simp[aa]
 | y::r,0=>rfl
 | y::r,i+1=>by
  have b:=wf x r i
  show Value.string y::(aa ae r).set i (.string x)=_
  rw[b]
  rfl
theorem nY {b:Type} {P:b->Prop} {l:List b} {x:b} (h:∀ y ∈ l,P y) (c:P x):∀ y ∈ l++[x],P y:=fun y a=>by
 rcases EG.1 a with a | a
 ·exact h y a
 ·simp at a;subst a;exact c
theorem qz {a:Type} {P:a->Prop} {l:List a} {x:a} (i:Nat) (h:∀ y ∈ l,P y) (c:P x):∀ y ∈ l.set i x,P y:=fun y b=>by
 rcases um b with b | rfl
 ·exact h y b
 ·exact c
theorem oM (C A B:Nat) (w:World) (h:dk w C A B) (a:Option Addr) (n c:Nat) (ts:List TN) (S:Nat->Prop) (dG:∀ k,S k->k<w.heap.size) (cz:DT w S a n c ts) (dH:0<n) (ea:n<=1000) (b5:∀ x ∈ ts,p8 x) :
  Calls prog 32 #[.pointer (some ⟨C,0,none⟩),.agg #[.slice a n c]] w fun j w'=>∃ (cA:Option Addr) (cB:Nat) (aN:List TN),j=.returned (.agg #[.slice cA n cB])∧DT w' S cA n cB aN∧(∀ x ∈ aN,be x)∧dk w' C A B∧Fr (fun k=>k=C) w w':=by
 have eb:=h.lt;obtain⟨N,b6⟩:=Zn w.heap.size;obtain⟨bj,b7⟩:∃ bj,bj=((w.alloc (.cells #[.slice a n c] 25)).alloc (.cells #[.slice none 0 0] 25)):=⟨_,rfl⟩;have cC:=bH w (.cells #[.slice a n c] 25) (.cells #[.slice none 0 0] 25);rw[<-b7,b6] at cC;obtain⟨b8,cD,cE,cF⟩:=cC;have bM:Below w.heap.size w bj:=by rw[b6];exact cF
 obtain⟨dI,dJ,dK,cG,bN⟩:=cz.below bM;have bO:=hidI bN.1;have cH:=hidI (yB bN);have cI:=hidI b5;have az:=h.below bM;have cJ:Hid (Fr (fun k=>k=C) w bj):=Fr.of_below bM;have cK:=p6 ts a n c dI dJ bj cG bN (by omega) (fun x aO=>fj (b5 x aO));have dL:=ah b8;have a0:=Za b8;obtain⟨cL,cM,cN,cO,cP⟩:=info_parts gg;obtain⟨dM,dN,dO,dP,dQ⟩:=info_parts du;clear cz h b5 bN dK cG cF bM;go_enter func32,ntmps32;go_upto_region 1 with fail
 rw[<-b7];clear b7;go_upto_region 2 with (go_at_call 52;refine cK.mono ?_;rintro j bP ⟨W,cc,rfl,_,bk,us,b9⟩)
 have b':=b9.row;rw[EZ,bO.out] at b';obtain⟨g,rfl⟩:=dz b' dH;have bQ:=CC b9 bO.out;rw[cE] at bQ;have cQ:=az.below bk;have cR:=hidI (cJ.out.trans (Fr.of_below bk));have cS:=(bk.block (N+1) (by omega)).trans cD;have dR:=bk.size;have a3:=Ej bP (.cells #[.slice (some ⟨g,0,none⟩) n cc] 25);have a4:=Zb bP (.cells #[.slice (some ⟨g,0,none⟩) n cc] 25);obtain⟨Lb,cb⟩:=Zn bP.heap.size;have cT:Hid (∀ k,wd g n us k->k<Lb):=fun k j=>cb ▸ (bQ.lt j).2;have bR:=bQ.below a4;have cd:=cQ.below a4;have ce:=hidI (cR.out.trans (Fr.of_below a4));have cf:=(a4.block (N+1) (by omega)).trans cS;generalize bP.alloc (.cells #[.slice (some ⟨g,0,none⟩) n cc] 25)=cU at a3 a4 bR cd ce cf ⊢;rw[cb] at a3 ⊢;have a5:=Za a3;have dS:N+2<=Lb:=by omega
 clear cK az b9 b' bQ cQ cR cS a4 dL a0 b8 cD cJ bk cb dR cE;have aP:=ah a3;go_wp2_with fail
 refine (bo C A B cU cd n (by omega) (by omega)).mono ?_;rintro j cV ⟨i,rfl,dU,cW,cX⟩;have aR:i<n:=by omega
 go_wp2_with fail
 refine (bo C A B cV cW 9 (by omega) (by omega)).mono ?_;rintro j a1 ⟨aQ,rfl,ec,cY,cZ⟩;have bl:=cX.trans cZ;have bS:=(bl.block Lb a5 (by omega)).trans a3;have c0:=(bl.block (N+1) (by omega) (by omega)).trans cf;have aS:=bR.fr bl (fun k j ed=>by have:=(bR.lt j).1;omega);have c1:=hidI (ce.out.trans bl);obtain⟨x,aO⟩:=Zn (ts.getD i dT);have cg:x ∈ ts:=by rw[<-aO,List.getD_eq_getElem?_getD,Eh (by rw[bO.out];exact aR)];exact E4 _
 have l:Hid (p8 x∧qc x):=⟨cI.out x cg,cH.out x cg⟩;have aA:=aS.data i aR 0 (by omega);have aB:=aS.data i aR 1 (by omega);have aC:=aS.data i aR 2 (by omega);have aE:=aS.data i aR 3 (by omega);simp only[aO] at aA aB aC aE;obtain⟨X,Y,aT⟩:=ao aA;obtain⟨W,ag,aU⟩:=ao aB;obtain⟨aF,aG,aV⟩:=ao aC;obtain⟨Z,ab,aW⟩:=ao aE;obtain⟨o,bT⟩:=Zn ((x.nd.l 0).length);obtain⟨E,bU⟩:=Zn ((x.nd.l 1).length);obtain⟨K,bV⟩:=Zn ((x.nd.l 2).length);obtain⟨p,bW⟩:=Zn ((x.nd.l 3).length);rw[bT] at aT;rw[bU] at aU;rw[bV] at aV;rw[bW] at aW;have V:Hid ((x.nd.l 0).length=o∧(x.nd.l 1).length=E∧(x.nd.l 2).length=K∧(x.nd.l 3).length=p):=⟨bT,bU,bV,bW⟩;have d:Hid (us i 0=.slice X o Y∧us i 1=.slice W E ag∧us i 2=.slice aF K aG∧us i 3=.slice Z p ab):=⟨aT,aU,aV,aW⟩;have dV:o<=4∧E<=4∧K<=4∧p<=4:=by obtain⟨ap,au,av,a6⟩:=l.out.1;have dW:(aa ae x.keys).length=o:=bT;have c2:(aa ae x.vals).length=E:=bU;have dX:(aa ac x.over).length=K:=bV;have dY:(aa ac x.kids).length=p:=bW;rw[ay (m:=1) (fun _=>rfl)] at dW c2 dX dY;omega
 obtain⟨ee,ef,eg,eh⟩:=dV;have c3:∀ s,s<n->((fun s=>iI (ts.getD s dT).nd (us s)) s).length=6:=fun _ _=>rfl;have bm:=cu (css:=fun s=>iI (ts.getD s dT).nd (us s)) (m:=n) c3;have ad:∀ s,s<6->a1.cell? ⟨g,i*6+s,none⟩=[.bool x.leaf,.int .i64 x.page,.slice X o Y,.slice W E ag,.slice aF K aG,.slice Z p ab][s]?:=fun s ch=>by rw[aS.row.cellAt (i*6+s) (by omega),bm.2 i s aR ch];show (iI (ts.getD i dT).nd (us i))[s]?=_;rw[aO];unfold iI;rw[aT,aU,aV,aW];rfl
 have a7:=ad 0 (by omega);have q1:=ad 1 (by omega);have q2:=ad 2 (by omega);have q3:=ad 3 (by omega);have a8:=ad 4 (by omega);have a9:=ad 5 (by omega);simp only[List.getElem?_cons_zero,List.getElem?_cons_succ,Fu] at a7 q1 q2 q3 a8 a9;have ci:=(aS.row.lt g rfl).2;have dZ:=hidI aO;have a':=ah bS;have c4:=Za bS;clear bT bU bV bW aT aU aV aW aA aB aC aE ad bm c3 aO cg a3 cf cd cW cX cZ bl bR ce a5 aP dU;go_upto_region 5 with fail
 have P:=Ej a1 (.cells (Zs x.leaf x.page X o Y W E ag aF K aG Z p ab) 44);have ba:=Zb a1 (.cells (Zs x.leaf x.page X o Y W E ag aF K aG Z p ab) 44);obtain⟨M,cj⟩:=Zn a1.heap.size;have u:Hid (ca w (a1.alloc (.cells (Zs x.leaf x.page X o Y W E ag aF K aG Z p ab) 44)) C A B N Lb M g n cc i ts us x us):=by
  have d0:(a1.alloc (.cells (Zs x.leaf x.page X o Y W E ag aF K aG Z p ab) 44)).heap[M]?=some (.cells #[.bool x.leaf,.int .i64 x.page,us i 0,us i 1,us i 2,us i 3] 44):=(by rw[d.out.1,d.out.2.1,d.out.2.2.1,d.out.2.2.2,<-cj];exact P);refine⟨(ba.block Lb c4).trans bS,(ba.block (N+1) (by omega)).trans c0,d0,(aS.below ba).congr (fun _ _ _ _=>rfl) (fun s _ ck _=>?_),fun k j=>⟨by have:=cT.out k j;omega,by have:=cT.out k j;omega⟩,fun _ _ _=>rfl,l.out.2,fj l.out.1,cY.below ba,c1.out.trans (Fr.of_below ba),b6,⟨dS,by omega,by omega⟩,aR⟩;by_cases j:s=i;·simp only[if_pos j];rw[j,dZ.out]
  ·simp only[if_neg j]
 generalize a1.alloc (.cells (Zs x.leaf x.page X o Y W E ag aF K aG Z p ab) 44)=f at P u ⊢;rw[cj] at P ⊢;have ax:=Za P;have d1:N+2<=f.heap.size:=by have:=u.out.ord;omega
 have ei:C<M:=by omega
 clear cj ba a7 q1 q2 q3 a8 a9 ci a' c4 bS c0 cY aS c1;clear cU cV;obtain⟨a7,q1,q2,q3,a8,a9⟩:=aq P;have d2:=ar P;go_upto_block 0 with fail
 go_cut [] (fun wx=>∃ (y:TN) (U:Nat->Nat->Value),Hid (ca w wx C A B N Lb M g n cc i ts us y U))
 case first =>
  have d3:aQ=0∨aQ=1∨aQ=2∨aQ=3∨aQ=4∨aQ=5∨aQ=6∨aQ=7∨aQ=8:=(by omega);rcases d3 with rfl | rfl | rfl | rfl | rfl | rfl | rfl | rfl | rfl
  ·have c5:Below f.heap.size f (f.alloc (.cells #[.int .i64 1,.int .i64 2,.int .i64 999,.int .i64 1000] 2)):=Zb _ _;have c6:=Ej f (.cells #[.int .i64 1,.int .i64 2,.int .i64 999,.int .i64 1000] 2);have c7:=hidI (u.out.below c5);go_wp2_with fail
   refine (bo C A B _ c7.out.cur 4 (by omega) (by omega)).mono ?_;rintro j c8 ⟨y,rfl,ej,c9,cl⟩;have c':=hidI (c7.out.keep cl c9 (fun k j=>.inl j));have cm:=(cl.block f.heap.size (by simp) (by omega)).trans c6;obtain⟨bb,ek,da⟩:∃ bb:Int,c8.cell? ⟨f.heap.size,y,none⟩=some (.int .i64 bb)∧(0<=bb∧bb<=1000):=by
    have d4:y=0∨y=1∨y=2∨y=3:=(by omega);obtain⟨aA,aB,aC,aE⟩:=qn cm;rcases d4 with rfl | rfl | rfl | rfl;·exact⟨1,aA,by omega⟩
    ·exact⟨2,aB,by omega⟩
    ·exact⟨999,aC,by omega⟩
    ·exact⟨1000,aE,by omega⟩
   have el:=Za cm;have bn:=c'.out.kM;rw[d.out.1,d.out.2.1,d.out.2.2.1,d.out.2.2.2] at bn;obtain⟨bc,bd,bf,bg,cn,co⟩:=aq bn;have cp:=ar bn;have cq:=Za bn;have bp:Hid (ca w (c8.setCell ⟨M,1,none⟩ (.int .i64 bb)) C A B N Lb M g n cc i ts us { x with page:=bb } us):=c'.out.head rfl (fun ck=>rfl) ⟨kX da,l.out.2.2⟩ (fj l.out.1);clear cm c9 cl c5 c6 da bn;go_wp2_with fail
   go_meet
   exact⟨_,us,bp⟩
  ·have aH:=Zb f (.cells #[Value.string ⟨#[122,122]⟩] 9);have bq:Hid ((f.alloc (.cells #[Value.string ⟨#[122,122]⟩] 9)).ownsRow (N+2) 9 1 (.slice X o Y) o (aa ae x.keys)):=(by have e:=u.out.ls (r:=0) (by omega);rw[d.out.1] at e;have z:=V.out.1;rw[z] at e;exact an e aH);have br:Hid (∀ (F:Value) (G:World),G.ownsRow (N+2) 9 1 F (o+1) (aa ae x.keys++[Value.string ⟨#[122,122]⟩])->(f.alloc (.cells #[Value.string ⟨#[122,122]⟩] 9)).grownBy G (Value.slice X o Y).ownBlock->(F.ownBlock=(Value.slice X o Y).ownBlock∨∀ k,F.ownBlock=some k->(f.alloc (.cells #[Value.string ⟨#[122,122]⟩] 9)).heap.size<=k)->∃ H I,F=.slice H (o+1) I∧G.heap[M]?=some (.cells (Zs x.leaf x.page X o Y W E ag aF K aG Z p ab) 44)∧Hid (ca w (G.setCell ⟨M,2,none⟩ (.slice H (o+1) I)) C A B N Lb M g n cc i ts us { x with keys:=x.keys++[⟨#[122,122]⟩] } (r8 us i 0 (.slice H (o+1) I)))):=fun F G Q ai al=>(by obtain⟨H,I,rfl⟩:=ao Q;have z:(aa ae x.keys++[Value.string ⟨#[122,122]⟩]).length=o+1:=(by rw[El];have:(aa ae x.keys).length=o:=V.out.1;rw[this];rfl);have e:=u.out.app (r:=0) (v8:=.slice H (o+1) I) (zs:=aa ae x.keys++[Value.string ⟨#[122,122]⟩]) (y:={ x with keys:=x.keys++[⟨#[122,122]⟩] }) (by omega) aH (by rw[z];exact Q) (by rw[d.out.1];exact ai) (by rw[d.out.1];exact al) rfl rfl (by show aa ae (x.keys++[⟨#[122,122]⟩])=_;rw[aD];rfl) (fun b bs=>by unfold TN.nd;show (if b=0 then _ else if b=1 then _ else if b=2 then _ else if b=3 then _ else _)=(if b=0 then _ else if b=1 then _ else if b=2 then _ else if b=3 then _ else _);(repeat (first | rfl | (split<;>first | rfl | (exfalso;omega) | skip)))) ⟨l.out.2.1,nY l.out.2.2.1 (by show _<=_;decide),l.out.2.2.2⟩ (by obtain⟨ap,au,av,a6⟩:=l.out.1;refine⟨?_,?_,?_,?_⟩<;>(try (show List.length (_++[_])<=_;rw[El]))<;>(try simp)<;>omega);obtain⟨bt,aX⟩:=e;rw[d.out.1,d.out.2.1,d.out.2.2.1,d.out.2.2.2] at aX;exact⟨H,I,rfl,aX,bt⟩);go_wp2_with (at_builtin;refine ak _ rfl _ _ 42 rfl (N+2) 9 cL _ 1 16 underlying42 cM cN cO cP rfl (by decide) (.slice X o Y) o _ rfl bq.out ⟨f.heap.size,0,none⟩ 1 1 [Value.string ⟨#[122,122]⟩] rfl rfl (dA _ _ _) (by simp[Value.oneCell']) (by unfold maxLen;omega) (by omega) (by have:=aH.size;omega) ?_;intro F G Q ai al;obtain⟨H,I,rfl,aI,am⟩:=br.out F G Q ai al;obtain⟨bc,bd,bf,bg,cn,co⟩:=aq aI;have cp:=ar aI;have cq:=Za aI;clear Q ai al)
   go_meet
   exact⟨_,_,am⟩
  ·have bp:Hid (ca w (f.setCell ⟨M,0,none⟩ (.bool (!x.leaf))) C A B N Lb M g n cc i ts us { x with leaf:=!x.leaf } us):=u.out.head rfl (fun ck=>rfl) l.out.2 (fj l.out.1);go_wp2_with fail
   go_meet
   exact⟨_,us,bp⟩
  ·have d5:Hid (ga ((i:Int)+1)):=⟨by omega,by omega⟩;have aH:=Zb f (.cells #[Value.int .i64 ((i:Int)+1)] 2);have bq:Hid ((f.alloc (.cells #[Value.int .i64 ((i:Int)+1)] 2)).ownsRow (N+2) 2 1 (.slice Z p ab) p (aa ac x.kids)):=(by have e:=u.out.ls (r:=3) (by omega);rw[d.out.2.2.2] at e;have z:=V.out.2.2.2;rw[z] at e;exact an e aH);have br:Hid (∀ (F:Value) (G:World),G.ownsRow (N+2) 2 1 F (p+1) (aa ac x.kids++[Value.int .i64 ((i:Int)+1)])->(f.alloc (.cells #[Value.int .i64 ((i:Int)+1)] 2)).grownBy G (Value.slice Z p ab).ownBlock->(F.ownBlock=(Value.slice Z p ab).ownBlock∨∀ k,F.ownBlock=some k->(f.alloc (.cells #[Value.int .i64 ((i:Int)+1)] 2)).heap.size<=k)->∃ H I,F=.slice H (p+1) I∧G.heap[M]?=some (.cells (Zs x.leaf x.page X o Y W E ag aF K aG Z p ab) 44)∧Hid (ca w (G.setCell ⟨M,5,none⟩ (.slice H (p+1) I)) C A B N Lb M g n cc i ts us { x with kids:=x.kids++[((i:Int)+1)] } (r8 us i 3 (.slice H (p+1) I)))):=fun F G Q ai al=>(by obtain⟨H,I,rfl⟩:=ao Q;have z:(aa ac x.kids++[Value.int .i64 ((i:Int)+1)]).length=p+1:=(by rw[El];have:(aa ac x.kids).length=p:=V.out.2.2.2;rw[this];rfl);have e:=u.out.app (r:=3) (v8:=.slice H (p+1) I) (zs:=aa ac x.kids++[Value.int .i64 ((i:Int)+1)]) (y:={ x with kids:=x.kids++[((i:Int)+1)] }) (by omega) aH (by rw[z];exact Q) (by rw[d.out.2.2.2];exact ai) (by rw[d.out.2.2.2];exact al) rfl rfl (by show aa ac (x.kids++[((i:Int)+1)])=_;rw[aD];rfl) (fun b bs=>by unfold TN.nd;show (if b=0 then _ else if b=1 then _ else if b=2 then _ else if b=3 then _ else _)=(if b=0 then _ else if b=1 then _ else if b=2 then _ else if b=3 then _ else _);(repeat (first | rfl | (split<;>first | rfl | (exfalso;omega) | skip)))) ⟨l.out.2.1,l.out.2.2.1,l.out.2.2.2.1,l.out.2.2.2.2.1,nY l.out.2.2.2.2.2 d5.out⟩ (by obtain⟨ap,au,av,a6⟩:=l.out.1;refine⟨?_,?_,?_,?_⟩<;>(try (show List.length (_++[_])<=_;rw[El]))<;>(try simp)<;>omega);obtain⟨bt,aX⟩:=e;rw[d.out.1,d.out.2.1,d.out.2.2.1,d.out.2.2.2] at aX;exact⟨H,I,rfl,aX,bt⟩);go_wp2_with (at_builtin;refine ak _ rfl _ _ 29 rfl (N+2) 2 dM _ 1 8 underlying29 dN dO dP dQ rfl (by decide) (.slice Z p ab) p _ rfl bq.out ⟨f.heap.size,0,none⟩ 1 1 [Value.int .i64 ((i:Int)+1)] rfl rfl (dA _ _ _) (by simp[Value.oneCell']) (by unfold maxLen;omega) (by omega) (by have:=aH.size;omega) ?_;intro F G Q ai al;obtain⟨H,I,rfl,aI,am⟩:=br.out F G Q ai al;obtain⟨bc,bd,bf,bg,cn,co⟩:=aq aI;have cp:=ar aI;have cq:=Za aI;clear Q ai al)
   go_meet
   exact⟨_,_,am⟩
  ·have aH:=Zb f (.cells #[Value.string ⟨#[118]⟩] 9);have bq:Hid ((f.alloc (.cells #[Value.string ⟨#[118]⟩] 9)).ownsRow (N+2) 9 1 (.slice W E ag) E (aa ae x.vals)):=(by have e:=u.out.ls (r:=1) (by omega);rw[d.out.2.1] at e;have z:=V.out.2.1;rw[z] at e;exact an e aH);have br:Hid (∀ (F:Value) (G:World),G.ownsRow (N+2) 9 1 F (E+1) (aa ae x.vals++[Value.string ⟨#[118]⟩])->(f.alloc (.cells #[Value.string ⟨#[118]⟩] 9)).grownBy G (Value.slice W E ag).ownBlock->(F.ownBlock=(Value.slice W E ag).ownBlock∨∀ k,F.ownBlock=some k->(f.alloc (.cells #[Value.string ⟨#[118]⟩] 9)).heap.size<=k)->∃ H I,F=.slice H (E+1) I∧G.heap[M]?=some (.cells (Zs x.leaf x.page X o Y W E ag aF K aG Z p ab) 44)∧Hid (ca w (G.setCell ⟨M,3,none⟩ (.slice H (E+1) I)) C A B N Lb M g n cc i ts us { x with vals:=x.vals++[⟨#[118]⟩] } (r8 us i 1 (.slice H (E+1) I)))):=fun F G Q ai al=>(by obtain⟨H,I,rfl⟩:=ao Q;have z:(aa ae x.vals++[Value.string ⟨#[118]⟩]).length=E+1:=(by rw[El];have:(aa ae x.vals).length=E:=V.out.2.1;rw[this];rfl);have e:=u.out.app (r:=1) (v8:=.slice H (E+1) I) (zs:=aa ae x.vals++[Value.string ⟨#[118]⟩]) (y:={ x with vals:=x.vals++[⟨#[118]⟩] }) (by omega) aH (by rw[z];exact Q) (by rw[d.out.2.1];exact ai) (by rw[d.out.2.1];exact al) rfl rfl (by show aa ae (x.vals++[⟨#[118]⟩])=_;rw[aD];rfl) (fun b bs=>by unfold TN.nd;show (if b=0 then _ else if b=1 then _ else if b=2 then _ else if b=3 then _ else _)=(if b=0 then _ else if b=1 then _ else if b=2 then _ else if b=3 then _ else _);(repeat (first | rfl | (split<;>first | rfl | (exfalso;omega) | skip)))) ⟨l.out.2.1,l.out.2.2.1,nY l.out.2.2.2.1 (by show _<=_;decide),l.out.2.2.2.2⟩ (by obtain⟨ap,au,av,a6⟩:=l.out.1;refine⟨?_,?_,?_,?_⟩<;>(try (show List.length (_++[_])<=_;rw[El]))<;>(try simp)<;>omega);obtain⟨bt,aX⟩:=e;rw[d.out.1,d.out.2.1,d.out.2.2.1,d.out.2.2.2] at aX;exact⟨H,I,rfl,aX,bt⟩);go_wp2_with (at_builtin;refine ak _ rfl _ _ 42 rfl (N+2) 9 cL _ 1 16 underlying42 cM cN cO cP rfl (by decide) (.slice W E ag) E _ rfl bq.out ⟨f.heap.size,0,none⟩ 1 1 [Value.string ⟨#[118]⟩] rfl rfl (dA _ _ _) (by simp[Value.oneCell']) (by unfold maxLen;omega) (by omega) (by have:=aH.size;omega) ?_;intro F G Q ai al;obtain⟨H,I,rfl,aI,am⟩:=br.out F G Q ai al;obtain⟨bc,bd,bf,bg,cn,co⟩:=aq aI;have cp:=ar aI;have cq:=Za aI;clear Q ai al)
   go_meet
   exact⟨_,_,am⟩
  ·by_cases bu:K=0
   ·subst bu;(go_wp2_with fail);go_meet
    exact⟨x,us,u⟩
   ·have db:(0:Int)<(K:Int):=(by omega);have aJ:Hid (f.ownsRow (N+2) 2 1 (.slice aF K aG) K (aa ac x.over)):=(by have e:=u.out.ls (r:=2) (by omega);rw[d.out.2.2.1] at e;have z:=V.out.2.2.1;rw[z] at e;exact e);obtain⟨J,rfl⟩:=dz aJ.out (by omega);have dc:=aJ.out.lt J rfl;have bv:Hid (∀ (D:World) (q:Int),ca w D C A B N Lb M g n cc i ts us x us->ga q->ca w (D.setCell ⟨J,0,none⟩ (Value.int .i64 q)) C A B N Lb M g n cc i ts us { x with over:=x.over.set 0 q } us):=fun D q az bw=>by have e:=az.ls (r:=2) (by omega);rw[d.out.2.2.1] at e;have z:=V.out.2.2.1;rw[z] at e;have aY:=e.stored 0 (Value.int .i64 q);have aZ:(x.nd.l 2).set 0 (Value.int .i64 q)=aa ac (x.over.set 0 q):=m8 q x.over 0;rw[aZ] at aY;have bx:(aa ac (x.over.set 0 q)).length=K:=(by rw[<-aZ,EP,z]);refine az.put (r:=2) (zs:=aa ac (x.over.set 0 q)) (by omega) (by rw[d.out.2.2.1,bx];exact aY.1) (by rw[d.out.2.2.1];exact (af D J 0 _).weak (fun k j=>by rw[j];rfl)) rfl rfl rfl (fun b bs=>by unfold TN.nd;show (if b=0 then _ else if b=1 then _ else if b=2 then _ else if b=3 then _ else _)=(if b=0 then _ else if b=1 then _ else if b=2 then _ else if b=3 then _ else _);(repeat (first | rfl | (split<;>first | rfl | (exfalso;omega) | skip)))) ⟨l.out.2.1,l.out.2.2.1,l.out.2.2.2.1,qz 0 l.out.2.2.2.2.1 bw,l.out.2.2.2.2.2⟩ (by obtain⟨ap,au,av,a6⟩:=l.out.1;refine⟨?_,?_,?_,?_⟩<;>(try (show List.length (List.set _ _ _)<=_;rw[EP]))<;>(try simp)<;>omega)
    (go_upto_region 18 with fail);have R:=(Ev f.heap.size f).drew;have bz:=(u.out.off J (.inr ⟨i,2,u.out.hi,by omega,by rw[d.out.2.2.1];rfl⟩)).2;refine Zg (fun w':World=>w'.heap[M]?=f.heap[M]?∧M<w'.heap.size) (⟨rfl,ax⟩) (fun t=>?_);clear t;generalize f.drew=D at R ⊢;have t:D.heap[M]?=f.heap[M]?∧M<D.heap.size:=⟨R.block M ax,Er ax R.size⟩;have bh:=hidI (u.out.below R);have aM:=an aJ.out R;have bA:=aM.frozenAt 0;have bB:=(aM.lt J rfl).2;refine Zx .a0 ?_;refine Zy .a1 (fun bX L=>by (try dsimp only at L);obtain⟨aP,bC,bY,a',bZ,b0⟩:=aq (L.1.trans P);have b1:=L.2;go_simp;rfl) ?_;refine Zx .a2 ?_;refine Zy .a3 (fun bX L=>by (try dsimp only at L);obtain⟨aP,bC,bY,a',bZ,b0⟩:=aq (L.1.trans P);have b1:=L.2;go_simp;rfl) ?_;(try simp only[Zq]);refine Zx .a4 ?_;(try simp only[Zq]);have a2:=aM.cellAt 0 (by omega);rw[eL x.over 0 (by have:=V.out.2.2.1;have cr:(aa ac x.over).length=K:=this;rw[ay (m:=1) (fun _=>rfl)] at cr;omega)] at a2;obtain⟨cs,bD⟩:=Zn (x.over.getD 0 0);rw[bD] at a2;clear bD;refine Zr [5] ?_;refine rdA .a5 (fun aL T=>?_) Ei;go_simp;refine T.out _ _ (t) (fun t=>?_);clear T aL;refine Zx .a6 ?_;refine Zx .a7 ?_;(try simp only[Zq]);refine Zr [8] ?_;refine rdA .a8 (fun aL T=>?_) Ei;go_simp;have am:=bv.out D (IntKind.i64.wrap (cs+5)) bh.out (we _);have d6:Hid _:=am;refine T.out _ _ (⟨((af D J 0 _).block M t.2 (fun j=>bz j.symm)).trans t.1,by rw[fk];exact t.2⟩) (fun t=>?_);clear T aL;(try simp only[Zq]);refine Zd ?_;clear t a2 bA bB;(go_wp2_with fail);go_meet
    exact⟨_,us,am⟩
  ·have bp:Hid (ca w (f.setCell ⟨M,1,none⟩ (.int .i64 0)) C A B N Lb M g n cc i ts us { x with page:=0 } us):=u.out.head rfl (fun ck=>rfl) ⟨(show ga 0 from ⟨by decide,by decide⟩),l.out.2.2⟩ (fj l.out.1);go_wp2_with fail
   go_meet
   exact⟨_,us,bp⟩
  ·by_cases bu:o=0
   ·subst bu;(go_wp2_with fail);go_meet
    exact⟨x,us,u⟩
   ·have db:(0:Int)<(o:Int):=(by omega);have aJ:Hid (f.ownsRow (N+2) 9 1 (.slice X o Y) o (aa ae x.keys)):=(by have e:=u.out.ls (r:=0) (by omega);rw[d.out.1] at e;have z:=V.out.1;rw[z] at e;exact e);obtain⟨J,rfl⟩:=dz aJ.out (by omega);have dc:=aJ.out.lt J rfl;have bv:Hid (∀ (D:World) (q:ByteArray),ca w D C A B N Lb M g n cc i ts us x us->dm q->ca w (D.setCell ⟨J,0,none⟩ (Value.string q)) C A B N Lb M g n cc i ts us { x with keys:=x.keys.set 0 q } us):=fun D q az bw=>by have e:=az.ls (r:=0) (by omega);rw[d.out.1] at e;have z:=V.out.1;rw[z] at e;have aY:=e.stored 0 (Value.string q);have aZ:(x.nd.l 0).set 0 (Value.string q)=aa ae (x.keys.set 0 q):=wf q x.keys 0;rw[aZ] at aY;have bx:(aa ae (x.keys.set 0 q)).length=o:=(by rw[<-aZ,EP,z]);refine az.put (r:=0) (zs:=aa ae (x.keys.set 0 q)) (by omega) (by rw[d.out.1,bx];exact aY.1) (by rw[d.out.1];exact (af D J 0 _).weak (fun k j=>by rw[j];rfl)) rfl rfl rfl (fun b bs=>by unfold TN.nd;show (if b=0 then _ else if b=1 then _ else if b=2 then _ else if b=3 then _ else _)=(if b=0 then _ else if b=1 then _ else if b=2 then _ else if b=3 then _ else _);(repeat (first | rfl | (split<;>first | rfl | (exfalso;omega) | skip)))) ⟨l.out.2.1,qz 0 l.out.2.2.1 bw,l.out.2.2.2⟩ (by obtain⟨ap,au,av,a6⟩:=l.out.1;refine⟨?_,?_,?_,?_⟩<;>(try (show List.length (List.set _ _ _)<=_;rw[EP]))<;>(try simp)<;>omega)
    (go_upto_region 23 with fail);have R:=(Ev f.heap.size f).drew;have bz:=(u.out.off J (.inr ⟨i,0,u.out.hi,by omega,by rw[d.out.1];rfl⟩)).2;refine Zg (fun w':World=>w'.heap[M]?=f.heap[M]?∧M<w'.heap.size) (⟨rfl,ax⟩) (fun t=>?_);clear t;generalize f.drew=D at R ⊢;have t:D.heap[M]?=f.heap[M]?∧M<D.heap.size:=⟨R.block M ax,Er ax R.size⟩;have bh:=hidI (u.out.below R);have aM:=an aJ.out R;have bA:=aM.frozenAt 0;have bB:=(aM.lt J rfl).2;refine Zx .a0 ?_;refine Zy .a1 (fun bX L=>by (try dsimp only at L);obtain⟨aP,bC,bY,a',bZ,b0⟩:=aq (L.1.trans P);have b1:=L.2;go_simp;rfl) ?_;refine Zx .a2 ?_;(try simp only[Zq]);refine Zr [3] ?_;refine rdA .a3 (fun aL T=>?_) Ei;go_simp;refine (iK C A B D bh.out.cur).mono ?_;rintro j b2 ⟨dd,rfl,de,df,b3⟩;have dg:=hidI (bh.out.keep b3 df (fun k j=>.inl j));have d7:dm dd:=(by show _<=_;have:=nT de;unfold maxLen;omega);have e:=dg.out.ls (r:=0) (by omega);rw[d.out.1] at e;have dh:=V.out.1;rw[dh] at e;have em:=e.frozenAt 0;have en:=(e.lt J rfl).2;have d8:=e.cellAt 0 (by omega);have b4:b2.heap[M]?=f.heap[M]?∧M<b2.heap.size:=⟨(b3.block M t.2 (by omega)).trans t.1,Er t.2 b3.size⟩;obtain⟨di,dj⟩:∃ di,(x.nd.l 0)[0]?=some di:=⟨_,Eh (by have z:(x.nd.l 0).length=o:=V.out.1;omega)⟩;rw[dj] at d8;have am:=bv.out b2 dd dg.out d7;clear e dj de df b3 dh;(go_wp2_with fail);refine T.out _ _ (b4) (fun t=>?_);clear T aL;refine Zx .a4 ?_;(try simp only[Zq]);refine Zr [5] ?_;refine rdA .a5 (fun aL T=>?_) Ei;go_simp;refine T.out _ _ (⟨((af b2 J 0 _).block M b4.2 (fun j=>bz j.symm)).trans b4.1,by rw[fk];exact b4.2⟩) (fun t=>?_);clear T aL;(try simp only[Zq]);refine Zd ?_;clear t bA bB;(go_wp2_with fail);go_meet
    exact⟨_,us,am⟩
  ·by_cases bu:p=0
   ·subst bu;(go_wp2_with fail);go_meet
    exact⟨x,us,u⟩
   ·have db:(0:Int)<(p:Int):=(by omega);have aJ:Hid (f.ownsRow (N+2) 2 1 (.slice Z p ab) p (aa ac x.kids)):=(by have e:=u.out.ls (r:=3) (by omega);rw[d.out.2.2.2] at e;have z:=V.out.2.2.2;rw[z] at e;exact e);obtain⟨J,rfl⟩:=dz aJ.out (by omega);have dc:=aJ.out.lt J rfl;have bv:Hid (∀ (D:World) (q:Int),ca w D C A B N Lb M g n cc i ts us x us->ga q->ca w (D.setCell ⟨J,0,none⟩ (Value.int .i64 q)) C A B N Lb M g n cc i ts us { x with kids:=x.kids.set 0 q } us):=fun D q az bw=>by have e:=az.ls (r:=3) (by omega);rw[d.out.2.2.2] at e;have z:=V.out.2.2.2;rw[z] at e;have aY:=e.stored 0 (Value.int .i64 q);have aZ:(x.nd.l 3).set 0 (Value.int .i64 q)=aa ac (x.kids.set 0 q):=m8 q x.kids 0;rw[aZ] at aY;have bx:(aa ac (x.kids.set 0 q)).length=p:=(by rw[<-aZ,EP,z]);refine az.put (r:=3) (zs:=aa ac (x.kids.set 0 q)) (by omega) (by rw[d.out.2.2.2,bx];exact aY.1) (by rw[d.out.2.2.2];exact (af D J 0 _).weak (fun k j=>by rw[j];rfl)) rfl rfl rfl (fun b bs=>by unfold TN.nd;show (if b=0 then _ else if b=1 then _ else if b=2 then _ else if b=3 then _ else _)=(if b=0 then _ else if b=1 then _ else if b=2 then _ else if b=3 then _ else _);(repeat (first | rfl | (split<;>first | rfl | (exfalso;omega) | skip)))) ⟨l.out.2.1,l.out.2.2.1,l.out.2.2.2.1,l.out.2.2.2.2.1,qz 0 l.out.2.2.2.2.2 bw⟩ (by obtain⟨ap,au,av,a6⟩:=l.out.1;refine⟨?_,?_,?_,?_⟩<;>(try (show List.length (List.set _ _ _)<=_;rw[EP]))<;>(try simp)<;>omega)
    (go_upto_region 26 with fail);have R:=(Ev f.heap.size f).drew;have bz:=(u.out.off J (.inr ⟨i,3,u.out.hi,by omega,by rw[d.out.2.2.2];rfl⟩)).2;refine Zg (fun w':World=>w'.heap[M]?=f.heap[M]?∧M<w'.heap.size) (⟨rfl,ax⟩) (fun t=>?_);clear t;generalize f.drew=D at R ⊢;have t:D.heap[M]?=f.heap[M]?∧M<D.heap.size:=⟨R.block M ax,Er ax R.size⟩;have bh:=hidI (u.out.below R);have aM:=an aJ.out R;have bA:=aM.frozenAt 0;have bB:=(aM.lt J rfl).2;refine Zx .a0 ?_;refine Zy .a1 (fun bX L=>by (try dsimp only at L);obtain⟨aP,bC,bY,a',bZ,b0⟩:=aq (L.1.trans P);have b1:=L.2;go_simp;rfl) ?_;refine Zx .a2 ?_;refine Zy .a3 (fun bX L=>by (try dsimp only at L);obtain⟨aP,bC,bY,a',bZ,b0⟩:=aq (L.1.trans P);have b1:=L.2;go_simp;rfl) ?_;(try simp only[Zq]);refine Zx .a4 ?_;(try simp only[Zq]);have a2:=aM.cellAt 0 (by omega);rw[eL x.kids 0 (by have:=V.out.2.2.2;have cr:(aa ac x.kids).length=p:=this;rw[ay (m:=1) (fun _=>rfl)] at cr;omega)] at a2;obtain⟨cs,bD⟩:=Zn (x.kids.getD 0 0);rw[bD] at a2;clear bD;refine Zr [5] ?_;refine rdA .a5 (fun aL T=>?_) Ei;go_simp;refine T.out _ _ (t) (fun t=>?_);clear T aL;refine Zx .a6 ?_;refine Zx .a7 ?_;(try simp only[Zq]);refine Zr [8] ?_;refine rdA .a8 (fun aL T=>?_) Ei;go_simp;have am:=bv.out D (IntKind.i64.wrap (cs+1)) bh.out (we _);have d6:Hid _:=am;refine T.out _ _ (⟨((af D J 0 _).block M t.2 (fun j=>bz j.symm)).trans t.1,by rw[fk];exact t.2⟩) (fun t=>?_);clear T aL;(try simp only[Zq]);refine Zd ?_;clear t a2 bA bB;(go_wp2_with fail);go_meet
    exact⟨_,us,am⟩
 case rest =>
  obtain⟨y,U,O⟩:=hcut;clear u P ax d1 a7 q1 q2 q3 a8 a9 d2;have bc:=O.out.ls (r:=0) (by omega);have bd:=O.out.ls (r:=1) (by omega);have bf:=O.out.ls (r:=2) (by omega);have bg:=O.out.ls (r:=3) (by omega);obtain⟨bE,aA,aT⟩:=ao bc;obtain⟨ap,aB,aU⟩:=ao bd;obtain⟨au,aC,aV⟩:=ao bf;obtain⟨av,aE,aW⟩:=ao bg;obtain⟨a0,dl⟩:=Zn ((y.nd.l 0).length);obtain⟨bF,dn⟩:=Zn ((y.nd.l 1).length);obtain⟨bG,dp⟩:=Zn ((y.nd.l 2).length);obtain⟨bI,dq⟩:=Zn ((y.nd.l 3).length);rw[dl] at aT;rw[dn] at aU;rw[dp] at aV;rw[dq] at aW;have P:=O.out.kM;have dr:=O.out.done bO.out cH.out (fun x aO=>fj (cI.out x aO));rw[aT,aU,aV,aW] at P dr;obtain⟨aN,ds,dt,dv,bJ⟩:=dr;have ct:Hid (aN.length=n∧(∀ x ∈ aN,be x)∧aw (aK wc g (i*6) (.bool y.leaf) (.int .i64 y.page) (.slice bE a0 aA) (.slice ap bF aB) (.slice au bG aC) (.slice av bI aE)) (N+2) (aK wc g (i*6) (.bool y.leaf) (.int .i64 y.page) (.slice bE a0 aA) (.slice ap bF aB) (.slice au bG aC) (.slice av bI aE)).heap.size (some ⟨g,0,none⟩) n cc aN):=⟨ds,dt,dv⟩;obtain⟨a7,q1,q2,q3,a8,a9⟩:=aq P;have ax:=Za P;have aP:=ah O.out.kL;have a5:=Za O.out.kL;have cv:=Za O.out.kN;have bm:=cu (css:=fun s=>iI (ts.getD s dT).nd (us s)) (m:=n) (fun _ _=>rfl);have ad:∀ s,s<6->wc.cell? ⟨g,i*6+s,none⟩=(iI (ts.getD i dT).nd (us i))[s]?:=fun s ch=>(by rw[O.out.sp.row.cellAt (i*6+s) (by omega),bm.2 i s aR ch]);have dw:=ad 0 (by omega);have dx:=ad 1 (by omega);have dy:=ad 2 (by omega);have dB:=ad 3 (by omega);have dC:=ad 4 (by omega);have dD:=ad 5 (by omega);simp only[iI,List.getElem?_cons_zero,List.getElem?_cons_succ,Fu] at dw dx dy dB dC dD;have d9:∀ cw,wc.frozen? ⟨g,cw,none⟩=false:=fun cw=>O.out.sp.row.frozenAt cw;have ci:=(O.out.sp.row.lt g rfl).2;have dE:=O.out.off g (.inl rfl);have eo:=(O.out.sp.row.lt g rfl).1;have cx:=(bJ.block Lb a5 (fun j=>dE.1 j.symm)).trans O.out.kL;have bK:=(bJ.block (N+1) cv (by omega)).trans O.out.kN;have cy:Hid (dk (aK wc g (i*6) (.bool y.leaf) (.int .i64 y.page) (.slice bE a0 aA) (.slice ap bF aB) (.slice au bG aC) (.slice av bI aE)) C A B∧Fr (fun k=>k=C) w (aK wc g (i*6) (.bool y.leaf) (.int .i64 y.page) (.slice bE a0 aA) (.slice ap bF aB) (.slice au bG aC) (.slice av bI aE))):=⟨O.out.cur.frg bJ (fun k j=>by omega),O.out.fr.up2 bJ (fun k j=>by omega)⟩;clear ds dt dv bJ ad bm bc bd bf bg dl dn dp dq aT aU aV aW P dE;go_upto_region 28 with fail
  rw[i9];generalize (aK wc g (i*6) (.bool y.leaf) (.int .i64 y.page) (.slice bE a0 aA) (.slice ap bF aB) (.slice au bG aC) (.slice av bI aE))=bi at ct cx bK cy ⊢;clear dw dx dy dB dC dD d9 ci a7 q1 q2 q3 a8 a9 ax aP a5 cv;have aP:=ah cx;have a5:=Za cx;have bC:=ah bK;have cv:=Za bK;have c2:=ar bK;have bL:=af bi (N+1) 0 (.slice (some ⟨g,0,none⟩) n cc);have dF:(bi.setCell ⟨N+1,0,none⟩ (.slice (some ⟨g,0,none⟩) n cc)).heap[N+1]?=some (.cells #[.slice (some ⟨g,0,none⟩) n cc] 25):=(by simpa using aj bK 0 (.slice (some ⟨g,0,none⟩) n cc));have d':=ah dF;have d:Hid (DT (bi.setCell ⟨N+1,0,none⟩ (.slice (some ⟨g,0,none⟩) n cc)) S (some ⟨g,0,none⟩) n cc aN∧(∀ x ∈ aN,be x)∧dk (bi.setCell ⟨N+1,0,none⟩ (.slice (some ⟨g,0,none⟩) n cc)) C A B∧Fr (fun k=>k=C) w (bi.setCell ⟨N+1,0,none⟩ (.slice (some ⟨g,0,none⟩) n cc))):=(by refine⟨⟨N+2,bi.heap.size,fun k j=>.inl (by have:=dG k j;omega),bL.size,ct.out.2.2.keep (fun k ep eq=>bL.block k (by omega) (by omega))⟩,ct.out.2.1,cy.out.1.frg bL (fun k j=>by omega),cy.out.2.up2 bL (fun k j=>by omega)⟩);clear bL dF;go_wp2_with fail
  refine bodyPost_ret (v:=.agg #[.slice (some ⟨g,0,none⟩) n cc]) (by simp[results,results32,go_sem,d']) rfl ?_;exact⟨_,cc,aN,rfl,d.out.1,d.out.2.1,d.out.2.2.1,d.out.2.2.2⟩
end Go.Proofs.YtggmghkcdfjdoaaGreat
