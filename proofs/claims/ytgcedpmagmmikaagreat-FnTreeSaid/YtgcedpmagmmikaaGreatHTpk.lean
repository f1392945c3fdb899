import Derived.Test.YtgcedpmagmmikaaGreatHTks
import Derived.Test.YtgcedpmagmmikaaGreatHTga
import Derived.Test.YtgcedpmagmmikaaGreatHTve
import Derived.Test.YtgcedpmagmmikaaGreatHTwq
import Derived.Test.YtgcedpmagmmikaaGreatHTdp
import Derived.Deep.LoopGhost
import Derived.Deep.DeepCutAuto
namespace Go.Proofs.YtgcedpmagmmikaaGreat
open Go.RowKit Tryz
set_option linter.unusedVariables false
set_option linter.unusedSimpArgs false
set_option maxRecDepth 100000
variable {A Bn N P U ec em m nc pc xc xm:Nat} {S X:Nat->Prop} {bx:Array Value} {ea na pa xa:Option Addr} {es:List PE} {kd tx:Int} {ks:List PK} {nv0 ov pv0:Value} {ol:List Int} {s:dl} {w w1 wr:World}
theorem mq:(prog.info? 142).map (fun a=>(a.zero,a.size,a.bytes))=some (some (.agg #[.int .i64 0,.int .i64 0,.int .i64 0,.int .i64 0,.int .i64 0,.slice none 0 0,.slice none 0 0,.int .i64 0,.string ByteArray.empty]),9,112):=by kernel_rfl
theorem dA (w:World) (a:Value) (t:TypeId):∀ b c,[a][b]?=some c->(w.alloc (.cells #[a] t)).cell? ((⟨w.heap.size,0,none⟩:Addr).add b)=some c:=by
 intro b c d
 match b,d with
 | 0,d=>simpa[Addr.add] using d
theorem im (w:World) (a b c d e f g x i:Value) (t:TypeId):∀ j k,[a,b,c,d,e,f,g,x,i][j]?=some k->(w.alloc (.cells #[a,b,c,d,e,f,g,x,i] t)).cell? ((⟨w.heap.size,0,none⟩:Addr).add j)=some k:=by
 intro j k h
 match j,h with
 | 0,h=>simpa[Addr.add] using h
 | 1,h=>simpa[Addr.add] using h
 | 2,h=>simpa[Addr.add] using h
 | 3,h=>simpa[Addr.add] using h
 | 4,h=>simpa[Addr.add] using h
 | 5,h=>simpa[Addr.add] using h
 | 6,h=>simpa[Addr.add] using h
 | 7,h=>simpa[Addr.add] using h
 | 8,h=>simpa[Addr.add] using h
theorem oD {a b c d e f g i v8:Value} {t:TypeId} (h:w.heap[N]?=some (.cells #[a,b,c,d,e,f,g,i,v8] t)):w.cell? ⟨N,0,none⟩=some a∧w.cell? ⟨N,1,none⟩=some b∧w.cell? ⟨N,2,none⟩=some c∧w.cell? ⟨N,3,none⟩=some d∧w.cell? ⟨N,4,none⟩=some e∧w.cell? ⟨N,5,none⟩=some f∧w.cell? ⟨N,6,none⟩=some g∧w.cell? ⟨N,7,none⟩=some i∧w.cell? ⟨N,8,none⟩=some v8:=by
 simp[World.cell?,h]
theorem jY:∀ (a:Nat) (s:dl),ce (a+1) s=((ce a s).1++[(cW (ce a s).2).1],(cW (ce a s).2).2)
 | 0,s=>by simp[ce]
 | a+1,s=>by
  have b:=jY a (cW s).2
  rw[ce,b]
  simp[ce]
theorem uf (s:dl):(cW s).2.log=s.log:=by
 unfold cW;split<;>rfl
theorem qi:∀ (a:Nat) (s:dl),(ce a s).2.log=s.log
 | 0,s=>rfl
 | a+1,s=>by rw[ce];exact (qi a _).trans (uf s)
theorem eL (l:List Int) (j:Nat) (h:j<l.length):(aa ac l)[j]?=some (.int .i64 (l.getD j 0)):=by
 have:=bI (cs:=ac) (m:=1) (fun _=>rfl) 0 l j 0 h (by omega);simpa[ac] using this
theorem ZP.next {M:Nat} {c d e f g i:Value} (h:∀ a,ZP P U e f a->ZP P U c d a∨N<=a) (k:∀ a,g.ownBlock=some a->e.ownBlock=some a∨M<=a) (l:∀ a,i.ownBlock=some a->f.ownBlock=some a∨M<=a) (j:N<=M):∀ a,ZP P U g i a->ZP P U c d a∨N<=a:=by
 intro a m;rcases m with b | b | b | b;·exact .inl (.inl b)
 ·exact .inl (.inr (.inl b))
 ·rcases k a b with b | b;·exact h a (.inr (.inr (.inl b)))
  ·exact .inr (DX j b)
 ·rcases l a b with b | b;·exact h a (.inr (.inr (.inr b)))
  ·exact .inr (DX j b)
theorem Fr.up3 {T:Nat->Prop} {a b c:World} (h:Fr S a b) (k:Fr T b c) (i:∀ d,T d->S d∨a.heap.size<=d):Fr S a c :=
 ⟨k.1.trans h.1,k.2.trans h.2,k.3.trans h.3,DX h.size k.size,fun d e f=>(k.block d (DY e h.size) (fun g=>(i d g).elim f (fun g=>by omega))).trans (h.block d e f)⟩
theorem Fr.zp {e f g i:Value} {a b:World} (h:Fr (ZP P U e f) w a) (j:∀ c,ZP P U g i c->ZP P U e f c∨w.heap.size<=c) (k:Fr S a b) (l:∀ c,S c->ZP P U g i c∨w.heap.size<=c):Fr (ZP P U e f) w b :=
 h.up3 k (fun c d=>by
  rcases l c d with d | d
  ·exact j c d
  ·exact .inr d)
set_option maxHeartbeats 8000000 in
theorem vY (x:Nat->Prop) (P U a b:Nat) (q r:Value) (tx:Int) (s:dl) (w:World) (h:dR x w P U q a r b tx s) (bj:a=s.log.length) (bk:b=s.log.length) (v:ByteArray) (cD:0<v.size) (cE:v.size<=400) (cF:a<=1000000) (cG:b<=1000000) :
  Calls prog 71 #[.pointer (some ⟨P,0,none⟩),.string v] w fun c bl=>∃ bm bn,c=.returned (.int .i64 (fH v s).1)∧dR x bl P U bm (a+(v.size+95) / 96) bn (b+(v.size+95) / 96) tx (fH v s).2∧Fr (ZP P U q r) w bl∧∀ d,ZP P U bm bn d->ZP P U q r d∨w.heap.size<=d:=by
 obtain⟨N,ax⟩:=Zn w.heap.size;obtain⟨L,aJ⟩:=Zn ((v.size+95) / 96);have bV:=hidI aJ;have bW:0<L:=by omega
 have cH:L<=5:=by omega
 obtain⟨z,bX⟩:=Zn v.size;have bY:=hidI bX;have bZ:96*L<z+96∧z<=96*L:=by omega
 obtain⟨cI,cJ⟩:=bZ;have cK:z<=400:=by omega
 obtain⟨b0,b1,b2,b3,b4⟩:=info_parts mq;obtain⟨bo,bp,bq,br,bs⟩:=info_parts du;have t:Hid (a=s.log.length∧b=s.log.length):=⟨bj,bk⟩;have bt:=hidI h;have cL:=h.lt (.inl rfl);have cN:=h.lt (.inr (.inl rfl));have aK:Below w.heap.size w (w.alloc (.cells #[] 2)):=Zb _ _;have aL:=dp w 2 1 N (by omega);have ab:=h.below aK;have T:Fr (ZP P U q r) w _:=Fr.of_below aK;rw[aJ];clear h aJ bj bk;go_enter func71,ntmps71;go_wp2_with fail
 go_loopw [5,6] (fun b5 ad wr=>∃ (f:Nat) (xa:Option Addr) (xc:Nat),f<=L∧ad=.int .i64 ((96*f:Nat):Int)∧b5=.slice xa f xc∧Hid (wr.ownsRow N 2 1 (.slice xa f xc) f (aa ac (ce f s).1))∧Hid (dR x wr P U q a r b tx (ce f s).2)∧Hid (Fr (ZP P U q r) w wr)) (fun _ ad _=>96*L - (intOf ad).toNat)
 case atStart=>exact⟨0,some ⟨N,0,none⟩,0,D0 _,rfl,rfl,by show World.ownsRow _ _ _ _ _ _ _;rw[ax] at aL;exact aL,ab,T⟩
 case round =>
  clear aL ab T aK;obtain⟨f,xa,xc,cO,rfl,rfl,u,l,E⟩:=hrel;have bu:=E.out.size;have bv:=l.out.lt (.inl rfl);by_cases cP:96*f<z
  ·have aM:=mp x P U a b q r tx (ce f s).2 wr l.out;obtain⟨ay,aN⟩:=Zn ((cW (ce f s).2).1);have b6:=hidI aN;rw[aN] at aM;clear aN;go_wp2_with fail
   refine aM.mono ?_;rintro c w1 ⟨rfl,bw,aO⟩;have ab:Hid (dR x w1 P U q a r b tx (ce (f+1) s).2):=(by show dR _ _ _ _ _ _ _ _ _ _;rw[jY];exact bw);have bx:=am u.out aO (fun d c B=>by have:=(u.out.lt d c).1;rcases B with rfl | rfl<;>omega);have T:=hidI (E.out.trans (aO.weak (fun d c=>c.elim .inl (fun c=>.inr (.inl c)))));have cQ:=T.out.size;have az:=hidI bx;clear bw aO aM l u E bx;go_wp2_with (at_builtin;refine ak _ rfl _ _ 52 rfl N 2 bo _ 1 8 underlying52 bp bq br bs rfl (by decide) (.slice xa f xc) f _ rfl (an az.out (Zb _ (.cells #[.int .i64 ay] 2))) ⟨w1.heap.size,0,none⟩ 1 1 [.int .i64 ay] rfl rfl (dA w1 (.int .i64 ay) 2) (by simp[Value.oneCell']) (by unfold maxLen;omega) (by omega) (by simp;omega) ?_;intro cR b7 aP bz b8)
   obtain⟨bA,bB,rfl⟩:=ao aP;have aQ:=(Fr.of_below (Zb _ _)).trans (Fr.of_grown bz (fun d c=>c));have aR:∀ d,(Value.slice xa f xc).ownBlock=some d->N<=d:=fun d c=>(az.out.lt d c).1;have b9:=hidI (ab.out.fr aQ (fun d b' c=>by have:=aR d c;have:=bt.out.lt b';omega) (fun d c=>.inr (qg az.out c (by decide) (by decide))));have ca:=hidI (T.out.up2 aQ (fun d c=>by have:=aR d c;omega));have cb:Hid (b7.ownsRow N 2 1 (.slice bA (f+1) bB) (f+1) (aa ac (ce (f+1) s).1)):=(by show World.ownsRow _ _ _ _ _ _ _;rw[jY,aD,b6.out];exact aP);clear aP bz b8 aQ aR ab T az;go_roundw
   case rel=>exact⟨f+1,bA,bB,by omega,by go_num,rfl,cb,b9,ca⟩
   case measure=>simp[intOf];omega
  ·obtain rfl:f=L:=(by omega);have cc:=dz u.out bW;obtain⟨m,rfl⟩:=cc;have V:=hidI (mU f s);obtain⟨j,aS⟩:=Zn ((ce f s).1);obtain⟨k,aA⟩:=Zn ({ (ce f s).2 with log:=(ce f s).2.log++iE v j });have bC:Hid ({ (ce f s).2 with log:=(ce f s).2.log++iE v j }=k∧(ce f s).1=j):=⟨aA,aS⟩;rw[aS] at u V;have bD:Hid (dR x wr P U q a r b tx k):=(by show dR _ _ _ _ _ _ _ _ _ _;rw[<-aA];exact l.out.log _);have cd:Hid (∀ e,e<f->k.log[a+e]?=some (j.getD e 0,.over (if v.size<=(e+1)*96 then 0 else j.getD (e+1) 0) (v.extract (e*96) (min ((e+1)*96) v.size)))∧k.log[b+e]?=k.log[a+e]?):=fun e bE=>(by rw[t.out.1,t.out.2];refine⟨?_,rfl⟩;rw[<-aA];show ((ce f s).2.log++iE v j)[s.log.length+e]?=_;rw[qi,Ea (by omega),Nat.add_sub_cancel_left];have F:e<j.length:=(by rw[V.out];exact bE);simp[iE,List.getElem?_map,List.getElem?_range,F]);clear aA aS l;have l:=bD;clear bD;have bF:=u.out.lt m rfl;go_wp2_with fail
   go_loopg [8] f (fun cf ad aT=>∃ (e:Nat) (pa:Option Addr) (pc:Nat) (na:Option Addr) (nc:Nat),e<=f∧cf=f - e∧ad=.int .i64 (e:Int)∧Hid (aT.ownsRow N 2 1 (.slice (some ⟨m,0,none⟩) f xc) f (aa ac j))∧Hid (dR x aT P U (.slice pa (a+e) pc) (a+e) (.slice na (b+e) nc) (b+e) tx k)∧Hid (Fr (ZP P U q r) w aT)∧Hid (∀ d,ZP P U (.slice pa (a+e) pc) (.slice na (b+e) nc) d->ZP P U q r d∨N<=d)∧Hid ((Value.slice na (b+e) nc).ownBlock≠some m))
   case atStart =>obtain⟨cS,cg⟩:=l.out.prow;obtain⟨cT,ch⟩:=l.out.nrow;obtain⟨pa,pc,rfl⟩:=ao cg;obtain⟨na,nc,rfl⟩:=ao ch;exact⟨0,pa,pc,na,nc,D0 _,rfl,rfl,u,l,E,fun d c=>.inl c,fun c=>by have:=bt.out.lt (.inr (.inr (.inr c)));omega⟩
   case round =>
    clear u l E bu bv bF;obtain⟨e,pa,pc,na,nc,bE,rfl,rfl,u,l,E,ae,aU⟩:=hrel;have bF:=u.out.lt m rfl;have bu:=E.out.size;have bv:=l.out.lt (.inl rfl);have aB:=fun ci cj=>u.out.cellAt ci cj;by_cases ck:e<f
    ·obtain⟨ag,q1,q2,q3,ah⟩:=dJ l.out.box;obtain⟨A,ai⟩:=Zn (a+e);obtain⟨Bn,W⟩:=Zn (b+e);have aj:Hid (a+e=A∧b+e=Bn):=⟨ai,W⟩;have aC:=cd.out e ck;rw[ai,W] at aC;have cU:A<=1000100:=(by omega);have cV:Bn<=1000100:=(by omega);rw[ai,W] at l ae;rw[W] at aU;rw[ai] at q2;rw[W] at q3;clear ai W;have bG:=hidI u.out;have bH:=hidI l.out;obtain⟨I,aV⟩:=Zn (j.getD e 0);have cl:Hid (∀ i:World,i.ownsRow N 2 1 (.slice (some ⟨m,0,none⟩) f xc) f (aa ac j)->i.cell? ⟨m,e,none⟩=some (.int .i64 I)):=fun i cm=>(by have:=cm.cellAt e (by omega);rw[this,eL j e (by rw[V.out];omega),aV]);have bI:Hid (k.log[A]?=some (I,.over (if z<=(e+1)*96 then 0 else j.getD (e+1) 0) (v.extract (e*96) (min ((e+1)*96) z)))∧k.log[Bn]?=k.log[A]?):=(by rw[aV,bY.out] at aC;exact aC);clear aV u l aC;(go_upto_if 41 with fail);go_cut [10] (fun c aE=>∃ (M:Nat) (C:Int),c=.int .i64 (M:Int)∧e*96<=M∧M<=z∧Hid (M=min ((e+1)*96) z∧C=if z<=(e+1)*96 then 0 else j.getD (e+1) 0)∧aE=wr.alloc (.cells #[.int .i64 4,.int .i64 tx,.int .i64 0,.int .i64 0,.int .i64 0,.slice none 0 0,.slice none 0 0,.int .i64 C,.string ⟨#[]⟩] 142))
     case first =>
      by_cases bJ:z<=(e+1)*96
      ·(go_wp2_with fail);go_meet
       exact⟨z,0,rfl,by omega,by omega,⟨by omega,by rw[if_pos bJ]⟩,rfl⟩
      ·have aF:=aB (e+1) (by omega);rw[eL j (e+1) (by rw[V.out];omega)] at aF;(go_wp2_with fail);go_meet
       exact⟨(e+1)*96,_,by go_num,by omega,by omega,⟨by omega,by rw[if_neg bJ];rfl⟩,rfl⟩
     case rest =>
      obtain⟨M,C,rfl,cX,cY,aW,rfl⟩:=hcut;have al:Hid (k.log[A]?=some (I,.over C (v.extract (e*96) M))∧k.log[Bn]?=k.log[A]?):=by show _∧_;rw[aW.out.1,aW.out.2];exact bI.out
      (go_upto_region 16 with fail);generalize v.extract (e*96) M=O at al ⊢;obtain⟨aX,aY⟩:=Zn (mf.over C O);have cn:=hidI aY;rw[aY] at al;obtain⟨aZ,bK⟩:∃ aZ,aZ=I:=⟨_,rfl⟩;have co:=hidI bK;clear aY bK aW bI;clear aB;have ap:=Zb wr (.cells #[.int .i64 4,.int .i64 tx,.int .i64 0,.int .i64 0,.int .i64 0,.slice none 0 0,.slice none 0 0,.int .i64 C,.string O] 142);have aG:=DS wr (.cells #[.int .i64 4,.int .i64 tx,.int .i64 0,.int .i64 0,.int .i64 0,.slice none 0 0,.slice none 0 0,.int .i64 C,.string O] 142);generalize wr.alloc (.cells #[.int .i64 4,.int .i64 tx,.int .i64 0,.int .i64 0,.int .i64 0,.slice none 0 0,.slice none 0 0,.int .i64 C,.string O] 142)=i at ap aG ⊢;have bL:=Za aG;have aq:Hid (k.log[A]?=some (aZ,aX)∧iM x i tx [.int .i64 4,.int .i64 tx,.int .i64 0,.int .i64 0,.int .i64 0,.slice none 0 0,.slice none 0 0,.int .i64 C,.string O] aX):=⟨by rw[co.out];exact al.out.1,by rw[<-cn.out];exact iM.over _ _⟩;have D:=hidI (bH.out.below ap);have a0:=hidI (an bG.out ap);have bM:=hidI (E.out.trans (Fr.of_below ap));clear ap ag q1 q2 q3 ah bH bG;go_cut [] (fun aE=>∃ (Q:Option Addr) (R:Nat),Hid (dR x aE P U (.slice Q (A+1) R) (A+1) (.slice na Bn nc) Bn tx k∧Fr (fun d=>d=P∨(Value.slice pa A pc).ownBlock=some d) i aE∧∀ d,(Value.slice Q (A+1) R).ownBlock=some d->(Value.slice pa A pc).ownBlock=some d∨i.heap.size<=d))
      case first =>
       have J:=(D2 i.heap.size i).drew;have t:Hid (Below i.heap.size i ((i.alloc (.cells #[.int .i64 4,.int .i64 tx,.int .i64 0,.int .i64 0,.int .i64 0,.slice none 0 0,.slice none 0 0,.int .i64 C,.string O] 142)).drew)):=(Zb i _).drew;have p:=hidI (D.out.below t.out);obtain⟨ag,q1,q2,q3,ah⟩:=dJ (D.out.below J).box;obtain⟨a1,a2,a3,a4,a5⟩:=dJ p.out.box;have a6:=D.out.lt (.inl rfl);have au:=p.out.lt (.inl rfl);obtain⟨cp,av,cq,cr⟩:=p.out.pgs;have cs:=hidI (aq.out.2.below t.out);have a7:=hidI aq.out.1;have bN:=(J.block wr.heap.size bL).trans aG;obtain⟨cZ,c0,c1,c2,c3,c4,c5,c6,c7⟩:=oD bN;have c8:=Za bN;go_region_law (refine cM rfl _ _ 118 rfl 0 142 b0 _ 9 112 underlying118 b1 b2 b3 b4 rfl (by decide) (.slice pa A pc) A cp.flatten (by simp[Act.eval]) av ⟨i.drew.heap.size,0,none⟩ 1 1 [.int .i64 4,.int .i64 tx,.int .i64 0,.int .i64 0,.int .i64 0,.slice none 0 0,.slice none 0 0,.int .i64 C,.string O] (by simp[Act.eval]) rfl (im _ _ _ _ _ _ _ _ _ _ _) (by simp[Value.oneCell']) (by unfold maxLen;omega) (by omega) (D0 _) ?_;intro ct y S G aw;obtain⟨n,o,rfl⟩:=ao S;have H:y.heap[P]?=_:=(G.block P au (fun c=>p.out.apart.1 c.symm)).trans p.out.box;obtain⟨a8,a9,a',ba,bb⟩:=dJ H;have bc:=ar H;have bd:P<y.heap.size:=(Za H))
       all_goals
        have aH:Hid (dR x (y.setCell ⟨P,2,none⟩ (.slice n (A+1) o)) P U (.slice n (A+1) o) (A+1) (.slice na Bn nc) Bn tx k∧Fr (fun d=>d=P∨(Value.slice pa A pc).ownBlock=some d) i (y.setCell ⟨P,2,none⟩ (.slice n (A+1) o))∧∀ d,(Value.slice n (A+1) o).ownBlock=some d->(Value.slice pa A pc).ownBlock=some d∨i.heap.size<=d):=by
         refine⟨p.out.pushP cq cr a7.out cs.out S G,((Fr.of_below t.out).trans (Fr.of_grown G (fun d c=>.inr c))).trans ((af y P 2 _).weak (fun d c=>.inl c)),fun d c=>?_⟩;rcases aw with F | F;·rw[F] at c;exact .inl c
         ·exact .inr (DX t.out.size (F d c))
        clear S G aw H av p t a1 a2 a3 a4 a5 au J ag q1 q2 q3 ah a6 a8 a9 a' ba bb bc bd;(go_wp2_with fail);go_meet
        exact⟨n,o,aH⟩
      case rest =>
       obtain⟨Q,R,bO⟩:=hcut;obtain⟨X,K,Y⟩:=bO.out;have bP:(Value.slice pa A pc).ownBlock≠some m:=fun c=>(by obtain⟨c9,cu⟩:=D.out.prow;obtain⟨c',cv⟩:=jX a0.out (g:=m) rfl;exact bh cu cv (by decide) c);have Z:Hid (wc.ownsRow N 2 1 (.slice (some ⟨m,0,none⟩) f xc) f (aa ac j)):=am a0.out K (fun d c B=>by
        have be:m=d:=Option.some.inj c;subst be;rcases B with B | B;·omega
        ·exact bP B)
       have bf:=hidI (ZP.next ae.out Y (fun d c=>.inl c) (by omega));have aI:Hid (Fr (ZP P U q r) w wc):=Fr.zp bM.out (by rw[ax];exact ae.out) K (fun d c=>.inl (c.elim .inl (fun c=>.inr (.inr (.inl c)))));have cw:=aI.out.size;have bg:=hidI X;have bQ:=aU.out;have bi:=hidI bQ;clear X K Y bO bP bQ D a0 bM aG bL ae aU aq;clear i;generalize wc=i at Z aI cw bg ⊢;have D:=bg;have bR:Hid (k.log[Bn]?=some (I,aX)):=(by show _=_;rw[al.out.2];exact al.out.1);clear bg;have aq:=bR;clear bR;(go_upto_region 17 with fail);have J:=(D2 i.heap.size i).drew;have t:Hid (Below i.heap.size i ((i.alloc (.cells #[.int .i64 I] 2)).drew)):=(Zb i _).drew;have p:=hidI (D.out.below t.out);obtain⟨ag,q1,q2,q3,ah⟩:=dJ (D.out.below J).box;obtain⟨a1,a2,a3,a4,a5⟩:=dJ p.out.box;have a6:=D.out.lt (.inl rfl);have au:=p.out.lt (.inl rfl);have av:=p.out.nms;have a7:=hidI aq.out;have da:=cl.out i.drew (an Z.out J);have db:=(an Z.out J).lt m rfl |>.2;go_region_law (refine cM rfl _ _ 52 rfl 0 2 bo _ 1 8 underlying52 bp bq br bs rfl (by decide) (.slice na Bn nc) Bn (aa ac ((k.log.take Bn).map Prod.fst)) (by simp[Act.eval]) av ⟨i.drew.heap.size,0,none⟩ 1 1 [.int .i64 I] (by simp[Act.eval]) rfl (dA _ _ _) (by simp[Value.oneCell']) (by unfold maxLen;omega) (by omega) (D0 _) ?_;intro ct y S G aw;obtain⟨n,o,rfl⟩:=ao S;have H:y.heap[P]?=_:=(G.block P au (fun c=>p.out.apart.2.2.1 c.symm)).trans p.out.box;obtain⟨a8,a9,a',ba,bb⟩:=dJ H;have bc:=ar H;have bd:P<y.heap.size:=(Za H))
       all_goals
        have aH:Hid (dR x (y.setCell ⟨P,3,none⟩ (.slice n (Bn+1) o)) P U (.slice Q (A+1) R) (A+1) (.slice n (Bn+1) o) (Bn+1) tx k∧Fr (fun d=>d=P∨(Value.slice na Bn nc).ownBlock=some d) i (y.setCell ⟨P,3,none⟩ (.slice n (Bn+1) o))∧∀ d,(Value.slice n (Bn+1) o).ownBlock=some d->(Value.slice na Bn nc).ownBlock=some d∨i.heap.size<=d):=by
         refine⟨p.out.pushN a7.out S G,((Fr.of_below t.out).trans (Fr.of_grown G (fun d c=>.inr c))).trans ((af y P 3 _).weak (fun d c=>.inl c)),fun d c=>?_⟩;rcases aw with F | F;·rw[F] at c;exact .inl c
         ·exact .inr (DX t.out.size (F d c))
        clear S G aw H av p t a1 a2 a3 a4 a5 au J ag q1 q2 q3 ah a6 a8 a9 a' ba bb bc bd;obtain⟨X,K,Y⟩:=aH.out;generalize y.setCell ⟨P,3,none⟩ (.slice n (Bn+1) o)=wc at X K ⊢;have cx:=Z.out.lt m rfl;have cy:Hid (wc.ownsRow N 2 1 (.slice (some ⟨m,0,none⟩) f xc) f (aa ac j)):=am Z.out K (fun d c B=>by
         have be:m=d:=Option.some.inj c;subst be;rcases B with B | B;·omega
         ·exact bi.out B)
        have bS:=hidI (ZP.next bf.out (fun d c=>.inl c) Y (by omega));have cz:Hid (Fr (ZP P U q r) w wc):=Fr.zp aI.out (by rw[ax];exact bf.out) K (fun d c=>.inl (c.elim .inl (fun c=>.inr (.inr (.inr c)))));have bT:Hid ((Value.slice n (Bn+1) o).ownBlock≠some m):=fun c=>by
         rcases Y m c with c | c;·exact bi.out c
         ·omega
        have cA:Hid (dR x wc P U (.slice Q (a+(e+1)) R) (a+(e+1)) (.slice n (b+(e+1)) o) (b+(e+1)) tx k):=(by show dR _ _ _ _ _ _ _ _ _ _;rw[<-EX,<-EX,aj.out.1,aj.out.2];exact X);have cB:Hid (∀ d,ZP P U (.slice Q (a+(e+1)) R) (.slice n (b+(e+1)) o) d->ZP P U q r d∨N<=d):=(by show ∀ d,_;rw[<-EX,<-EX,aj.out.1,aj.out.2];exact bS.out);have cC:Hid ((Value.slice n (b+(e+1)) o).ownBlock≠some m):=(by show _≠_;rw[<-EX,aj.out.2];exact bT.out);clear X K Y aH cx D Z aI bf bi bS bT;(go_wp2_with fail);go_roundg (f - (e+1))
        case measure=>omega
        case rel=>exact⟨e+1,Q,R,n,o,by omega,rfl,by go_num,cy,cA,cz,cB,cC⟩
    ·obtain rfl:e=f:=(by omega);have aF:=aB 0 (by omega);rw[eL j 0 (by rw[V.out];omega)] at aF;have bU:Hid (fH v s=(j.getD 0 0,k)):=by
      show _=_;unfold fH;rw[bV.out,bC.out.2,bC.out.1];cases j with
      | nil=>have:=V.out;simp at this;omega
      | cons ay dc=>rfl
     generalize j.getD 0 0=I at aF bU;clear aB;(go_wp2_with fail);go_ret;rw[bU.out,ax];exact⟨_,_,rfl,l.out,E.out,ae.out⟩
theorem nU:∀ (b:List (ByteArray × Int)) (a:ByteArray × Int) (s:dl),aA (b++[a]) s=((aA b s).1++[if 8<a.1.size∧a.2=0 then (fH a.1 (aA b s).2).1 else a.2],if 8<a.1.size∧a.2=0 then (fH a.1 (aA b s).2).2 else (aA b s).2)
 | [],a,s=>by
  rw[D7,aA]
  split<;>simp[*,aA]
 | y::r,a,s=>by
  have d:=nU r a (fH y.1 s).2
  have e:=nU r a s
  rw[EO,aA,aA]
  by_cases c:8<y.1.size∧y.2=0
  ·simp only[if_pos c]
   rw[d]
   rfl
  ·simp only[if_neg c]
   rw[e]
   rfl
theorem ei {c d a b e f i j:Nat} {u v:Value} {l ys:List Value} (h:w.ownsRow c a e u i l) (k:w.ownsRow d b f v j ys) (m:a≠b) {g:Nat} (n:u.ownBlock=some g):v.ownBlock≠some g:=by
 obtain⟨q,o⟩:=jX h n;exact bh k o (fun p=>m p.symm)
structure cL (X:Nat->Prop) (w wr:World) (N P U:Nat) (pv0 nv0:Value) (bx:Array Value) (ov:Value) (m:Nat) (ol:List Int) (pa:Option Addr) (A pc:Nat) (na:Option Addr) (Bn nc:Nat) (tx:Int) (s:dl):Prop where
 fr:Fr (ZP P U pv0 nv0) w wr
 k0:wr.heap[N]?=some (.cells bx 55)
 k1:wr.heap[N+1]?=some (.cells (Z0 false 0) 55)
 over:wr.ownsRow (N+4) 2 1 ov m (aa ac ol)
 pat:dR X wr P U (.slice pa A pc) A (.slice na Bn nc) Bn tx s
 hz:∀ g,ZP P U (.slice pa A pc) (.slice na Bn nc) g->ZP P U pv0 nv0 g∨N+4<=g
 z0:∀ g,ZP P U pv0 nv0 g->g<N
 hN:w.heap.size=N
 ne:∀ g,ov.ownBlock=some g->(Value.slice na Bn nc).ownBlock≠some g
 sz:N+4<=wr.heap.size
def LB (N P U:Nat) (pv nv ov:Value) (g:Nat):Prop:=g=N∨g=N+1∨ov.ownBlock=some g∨ZP P U pv nv g
theorem cL.ovz (h:cL X w wr N P U pv0 nv0 bx ov m ol pa A pc na Bn nc tx s) {g:Nat} (b:ov.ownBlock=some g):¬ ZP P U (.slice pa A pc) (.slice na Bn nc) g:=fun a=>by
 obtain⟨d,c⟩:=h.pat.prow
 rcases a with a | a | a | a
 ·exact bh h.over h.pat.box (by decide) (by rw[b,a])
 ·exact bh h.over h.pat.us (by decide) (by rw[b,a])
 ·exact ei c h.over (by decide) a b
 ·exact h.ne g b a
theorem cL.zn (h:cL X w wr N P U pv0 nv0 bx ov m ol pa A pc na Bn nc tx s) {g:Nat} (a:ZP P U (.slice pa A pc) (.slice na Bn nc) g):g<N∨N+4<=g:=(h.hz g a).elim (fun b=>.inl (h.z0 g b)) .inr
theorem cL.lb (h:cL X w wr N P U pv0 nv0 bx ov m ol pa A pc na Bn nc tx s) {g:Nat} (b:LB N P U (.slice pa A pc) (.slice na Bn nc) ov g):g<wr.heap.size∧(g<N+2∨N+4<=g):=by
 rcases b with rfl | rfl | a | a;·exact⟨(Za h.k0),.inl (by omega)⟩
 ·exact⟨(Za h.k1),.inl (by omega)⟩
 ·exact⟨(h.over.lt g a).2,.inr (h.over.lt g a).1⟩
 ·exact⟨h.pat.lt a,(h.zn a).elim (fun a=>.inl (by omega)) .inr⟩
theorem cL.keep (h:cL X w wr N P U pv0 nv0 bx ov m ol pa A pc na Bn nc tx s) (b:Fr S wr w1) (d:∀ a,LB N P U (.slice pa A pc) (.slice na Bn nc) ov a->¬ S a) (e:∀ a,S a->N<=a) (f:∀ a,S a->X a∨NK wr a):cL X w w1 N P U pv0 nv0 bx ov m ol pa A pc na Bn nc tx s :=
 ⟨h.fr.up3 b (fun a c=>.inr (by rw[h.hN];exact e a c)),(b.block N (h.lb (.inl rfl)).1 (d N (.inl rfl))).trans h.k0,(b.block (N+1) (h.lb (.inr (.inl rfl))).1 (d _ (.inr (.inl rfl)))).trans h.k1,am h.over b (fun a c=>d a (.inr (.inr (.inl c)))),h.pat.fr b (fun a c=>d a (.inr (.inr (.inr c)))) f,h.hz,h.z0,h.hN,h.ne,DX h.sz b.size⟩
theorem cL.below (h:cL X w wr N P U pv0 nv0 bx ov m ol pa A pc na Bn nc tx s) (b:Below wr.heap.size wr w1):cL X w w1 N P U pv0 nv0 bx ov m ol pa A pc na Bn nc tx s:=h.keep (S:=fun _=>False) (Fr.of_below b) (fun _ _ a=>a) (fun _ a=>a.elim) (fun _ a=>a.elim)
theorem cL.less {a:Nat->Prop} (h:cL X w wr N P U pv0 nv0 bx ov m ol pa A pc na Bn nc tx s) (b:∀ g,a g->g<wr.heap.size->X g):cL a w wr N P U pv0 nv0 bx ov m ol pa A pc na Bn nc tx s:=⟨h.fr,h.k0,h.k1,h.over,h.pat.less b,h.hz,h.z0,h.hN,h.ne,h.sz⟩
theorem cL.log (h:cL X w wr N P U pv0 nv0 bx ov m ol pa A pc na Bn nc tx s) (l:List (Int × mf)):cL X w wr N P U pv0 nv0 bx ov m ol pa A pc na Bn nc tx { s with log:=s.log++l }:=⟨h.fr,h.k0,h.k1,h.over,h.pat.log l,h.hz,h.z0,h.hN,h.ne,h.sz⟩
theorem cL.step {d f e g:Nat} {i j:Option Addr} {k:dl} (h:cL X w wr N P U pv0 nv0 bx ov m ol pa A pc na Bn nc tx s) (o:dR X w1 P U (.slice i d f) d (.slice j e g) e tx k) (c:Fr (ZP P U (.slice pa A pc) (.slice na Bn nc)) wr w1) (l:∀ b,ZP P U (.slice i d f) (.slice j e g) b->ZP P U (.slice pa A pc) (.slice na Bn nc) b∨wr.heap.size<=b):cL X w w1 N P U pv0 nv0 bx ov m ol i d f j e g tx k:=by
 have p:=(h.lb (.inl rfl)).1;have q:=(h.lb (.inr (.inl rfl))).1;have r:∀ b,ov.ownBlock=some b->b<wr.heap.size:=fun b a=>(h.over.lt b a).2;refine⟨h.fr.up3 c (fun b a=>(h.hz b a).elim .inl (fun a=>.inr (by rw[h.hN];omega))),(c.block N p (fun a=>by have:=h.zn a;omega)).trans h.k0,(c.block (N+1) q (fun a=>by have:=h.zn a;omega)).trans h.k1,am h.over c (fun b a=>h.ovz a),o,fun b a=>?_,h.z0,h.hN,fun b a t=>?_,DX h.sz c.size⟩
 ·rcases l b a with a | a;·exact h.hz b a
  ·exact .inr (DX h.sz a)
 ·rcases l b (.inr (.inr (.inr t))) with n | n;·exact h.ovz a n
  ·have:=r b a;omega
theorem m8 (x:Int):∀ (b:List Int) (a:Nat),(aa ac b).set a (.int .i64 x)=aa ac (b.set a x)
 | [],a=>by simp[aa]
 | y::r,0=>rfl
 | y::r,a+1=>by
  have c:=m8 x r a
  show Value.int .i64 y::(aa ac r).set a (.int .i64 x)=_
  rw[c]
  rfl
theorem cL.put {a c i:Nat} (h:cL X w wr N P U pv0 nv0 bx (.slice (some ⟨a,0,none⟩) m c) m ol pa A pc na Bn nc tx s) (x:Int):cL X w (wr.setCell ⟨a,i,none⟩ (.int .i64 x)) N P U pv0 nv0 bx (.slice (some ⟨a,0,none⟩) m c) m (ol.set i x) pa A pc na Bn nc tx s:=by
 have d:=af wr a i (.int .i64 x);have k:=h.over.lt a rfl;refine⟨h.fr.up3 d (fun e b=>.inr (by rw[h.hN,b];omega)),(d.block N (h.lb (.inl rfl)).1 (by omega)).trans h.k0,(d.block (N+1) (h.lb (.inr (.inl rfl))).1 (by omega)).trans h.k1,?_,h.pat.fr d (fun e b j=>h.ovz (g:=a) rfl (j ▸ b)) (fun e b=>.inr (b ▸ qg h.over (g:=a) rfl (by decide) (by decide))),h.hz,h.z0,h.hN,h.ne,DX h.sz d.size⟩;have f:=(h.over.stored i (.int .i64 x)).1;have b:=m8 x ol i;rw[b] at f;exact f
theorem cL.box (h:cL X w wr N P U pv0 nv0 bx ov m ol pa A pc na Bn nc tx s) (i:Nat) (v:Value):cL X w (wr.setCell ⟨N,i,none⟩ v) N P U pv0 nv0 (bx.setIfInBounds i v) ov m ol pa A pc na Bn nc tx s:=by
 have b:=af wr N i v;refine⟨h.fr.up3 b (fun c a=>.inr (by rw[h.hN,a];omega)),aj h.k0 i v,(b.block (N+1) (h.lb (.inr (.inl rfl))).1 (by omega)).trans h.k1,am h.over b (fun c a d=>by have:=(h.over.lt c a).1;omega),h.pat.fr b (fun c a d=>by have:=h.zn a;omega) (fun c a=>.inr (a ▸ jt h.k0 (by decide) (by decide))),h.hz,h.z0,h.hN,h.ne,DX h.sz b.size⟩
def dL (w:World) (N:Nat) (kd tx:Int) (xa:Option Addr) (xm xc:Nat) (ea:Option Addr) (em ec:Nat) (ks:List PK) (es:List PE):Prop:=w.heap[N+2]?=some (.cells #[.int .i64 kd,.int .i64 tx,.int .i64 0,.int .i64 0,.int .i64 0,.slice xa xm xc,.slice ea em ec,.int .i64 0,.string ⟨#[]⟩] 142)∧w.ownsRow (N+4) 144 2 (.slice xa xm xc) xm (aa ft ks)∧w.ownsRow (N+4) 146 4 (.slice ea em ec) em (aa fu es)
theorem dL.keep (h:dL w N kd tx xa xm xc ea em ec ks es) (a:Fr S w w1) (c:¬ S (N+2)) (d:∀ g,(Value.slice xa xm xc).ownBlock=some g->¬ S g) (e:∀ g,(Value.slice ea em ec).ownBlock=some g->¬ S g):dL w1 N kd tx xa xm xc ea em ec ks es:=by
 obtain⟨b,f,i⟩:=h;exact⟨(a.block (N+2) (Za b) c).trans b,am f a d,am i a e⟩
theorem dL.below (h:dL w N kd tx xa xm xc ea em ec ks es) (b:Below w.heap.size w w1):dL w1 N kd tx xa xm xc ea em ec ks es:=h.keep (S:=fun _=>False) (Fr.of_below b) (fun a=>a) (fun _ _ a=>a) (fun _ _ a=>a)
theorem dL.is {c:mf} (h:dL w N c.kind tx xa xm xc ea em ec c.kids c.ents) (i:c.next=0) (j:c.data=ByteArray.empty) (g:∀ a,X a->a<N):iM X w tx [.int .i64 c.kind,.int .i64 tx,.int .i64 0,.int .i64 0,.int .i64 0,.slice xa xm xc,.slice ea em ec,.int .i64 0,.string ⟨#[]⟩] c:=by
 obtain⟨k,b,d⟩:=h;obtain rfl:c.kids.length=xm:=by have:=b.1;rw[ay iq] at this;omega
 obtain rfl:c.ents.length=em:=by have:=d.1;rw[ay Dr] at this;omega
 refine⟨xa,xc,ea,ec,by rw[i,j];rfl,cr b (D0 _),cr d (D0 _),fun a e f=>?_,fun a e f=>?_⟩;·have:=g a f;have:=(b.lt a e).1;omega
 ·have:=g a f;have:=(d.lt a e).1;omega
theorem dL.zp (h:dL wr N kd tx xa xm xc ea em ec ks es) (c:cL X w wr N P U pv0 nv0 bx ov m ol pa A pc na Bn nc tx s) {w1:World} (k:Fr (ZP P U (.slice pa A pc) (.slice na Bn nc)) wr w1):dL w1 N kd tx xa xm xc ea em ec ks es:=by
 obtain⟨l,d,e⟩:=h;obtain⟨o,f⟩:=c.pat.prow;obtain⟨p,g⟩:=c.pat.nrow;have i:=c.pat.box;have j:=c.pat.us;refine dL.keep ⟨l,d,e⟩ k (fun a=>by have:=c.zn a;omega) (fun n a b=>?_) (fun n a b=>?_)
 ·rcases b with rfl | rfl | b | b;·exact bh d i (by decide) a
  ·exact bh d j (by decide) a
  ·exact ei f d (by decide) b a
  ·exact ei g d (by decide) b a
 ·rcases b with rfl | rfl | b | b;·exact bh e i (by decide) a
  ·exact bh e j (by decide) a
  ·exact ei f e (by decide) b a
  ·exact ei g e (by decide) b a
theorem dL.st {a i e:Nat} {cs:Array Value} (h:dL w N kd tx xa xm xc ea em ec ks es) (d:w.heap[a]?=some (.cells cs e)) (j:e≠144) (k:e≠146) (l:a≠N+2) (v:Value):dL (w.setCell ⟨a,i,none⟩ v) N kd tx xa xm xc ea em ec ks es:=by
 obtain⟨m,f,g⟩:=h;exact dL.keep ⟨m,f,g⟩ (af w a i v) (fun e=>l e.symm) (fun n b c=>bh f d (fun e=>j e.symm) (by rw[b,c])) (fun n b c=>bh g d (fun e=>k e.symm) (by rw[b,c]))
theorem dL.kind (h:dL w N kd tx xa xm xc ea em ec ks es) (x:Int):dL (w.setCell ⟨N+2,0,none⟩ (.int .i64 x)) N x tx xa xm xc ea em ec ks es:=by
 obtain⟨f,c,d⟩:=h;have e:=af w (N+2) 0 (.int .i64 x);exact⟨by rw[aj f];rfl,am c e (fun a b g=>by have:=(c.lt a b).1;omega),am d e (fun a b g=>by have:=(d.lt a b).1;omega)⟩
end Go.Proofs.YtgcedpmagmmikaaGreat
