import Derived.Test.YtkhglgalbifcnaaGreatGAA
import Derived.Test.YtkhglgalbifcnaaGreatGAZ
import Derived.Test.YtkhglgalbifcnaaGreatGBE
namespace Go.Proofs.YtkhglgalbifcnaaGreat
set_option maxHeartbeats 16000000
open Go.RowKit
set_option linter.unusedVariables false
set_option linter.unusedSimpArgs false
set_option maxRecDepth 100000
theorem nxt_range (s:PSt):0<=(nxtP s).1∧(nxtP s).1<=1000:=by
 unfold nxtP
 split
 ·rename_i i hi
  obtain⟨h1,h2,_⟩:=free_some _ _ _ _ hi
  exact⟨by show (0:Int)<=(i:Int);omega,by show (i:Int)<=1000;omega⟩
 ·exact⟨Int.le_refl 0,by show (0:Int)<=1000;omega⟩
theorem take_range:∀ (n:Nat) (s:PSt),∀ x ∈ (takeP n s).1,0<=x∧x<=1000
 | 0,s,x,h=>by simp[takeP] at h
 | n+1,s,x,h=>by
  rw[takeP] at h
  rcases List.mem_cons.1 h with rfl | h
  ·exact nxt_range s
  ·exact take_range n _ x h
theorem val_range (v:ByteArray) (s:PSt):0<=(valP v s).1∧(valP v s).1<=1000:=by
 unfold valP
 have h:=take_range ((v.size+95) / 96) s
 cases he:(takeP ((v.size+95) / 96) s).1 with
 | nil=>exact⟨by simp,by simp⟩
 | cons x r=>exact h x (by rw[he];exact List.mem_cons_self ..)
theorem i64_small {x:Int} (h:0<=x∧x<=1000):I64 x:=⟨by omega,by omega⟩
theorem over_fit:∀ (l:List (ByteArray × Int)) (s:PSt),(∀ x ∈ l,I64 x.2)->∀ x ∈ (overP l s).1,I64 x
 | [],s,_,x,h=>by simp[overP] at h
 | y::r,s,hl,x,h=>by
  rw[overP] at h
  have hr:=fun z hz=>hl z (List.mem_cons_of_mem _ hz)
  split at h
  ·rcases List.mem_cons.1 h with rfl | h
   ·exact i64_small (val_range _ _)
   ·exact over_fit r _ hr x h
  ·rcases List.mem_cons.1 h with rfl | h
   ·exact hl y (List.mem_cons_self ..)
   ·exact over_fit r _ hr x h
def esC (t:T) (s:PSt) (i:Nat):List PE:=((t.keys.take i).zip ((t.vals.take i).zip (overP ((t.vals.zip t.over).take i) s).1)).map entC
theorem zip_snocP {α β:Type}:∀ (xs:List α) (ys:List β) (a:α) (b:β),xs.length=ys.length->(xs++[a]).zip (ys++[b])=xs.zip ys++[(a,b)]
 | [],[],a,b,_=>rfl
 | [],_::_,a,b,h=>by simp at h
 | _::_,[],a,b,h=>by simp at h
 | x::r,y::q,a,b,h=>by
  have:=zip_snocP r q a b (by simpa using h)
  simp[this]
theorem es_next {t:T} {s s':PSt} {i n:Nat} {k v:ByteArray} {o:Int} (hn:t.vals.length=n∧t.over.length=n∧t.keys.length=n∧1<=t.nodes) (hi:i<n) (hk:t.keys.getD i ByteArray.empty=k∧t.vals.getD i ByteArray.empty=v) (ho:overP ((t.vals.zip t.over).take (i+1)) s=((overP ((t.vals.zip t.over).take i) s).1++[o],s')):esC t s (i+1)=esC t s i++[entC (k,v,o)]:=by
 unfold esC
 rw[ho]
 have e1:t.keys.take (i+1)=t.keys.take i++[k]:=by
  rw[List.take_add_one,<-hk.1]
  simp[List.getD,List.getElem?_eq_getElem (show i<t.keys.length by omega)]
 have e2:t.vals.take (i+1)=t.vals.take i++[v]:=by
  rw[List.take_add_one,<-hk.2]
  simp[List.getD,List.getElem?_eq_getElem (show i<t.vals.length by omega)]
 have l1:(overP ((t.vals.zip t.over).take i) s).1.length=i:=by rw[overP_len];simp;omega
 rw[e1,e2,zip_snocP _ _ _ _ (by rw[l1];simp;omega),zip_snocP _ _ _ _ (by simp[l1];omega),List.map_append]
 rfl
theorem es_all {t:T} {s:PSt} {n:Nat} (hn:t.vals.length=n∧t.over.length=n∧t.keys.length=n∧1<=t.nodes):esC t s n=(t.keys.zip (t.vals.zip (overP (t.vals.zip t.over) s).1)).map entC:=by
 unfold esC
 rw[List.take_of_length_le (by omega),List.take_of_length_le (by omega),List.take_of_length_le (by simp;omega)]
theorem val_log (v:ByteArray) (s:PSt):(valP v s).2.log.length=s.log.length+(v.size+95) / 96:=by
 show ((takeP ((v.size+95) / 96) s).2.log++ovPages v (takeP ((v.size+95) / 96) s).1).length=_
 rw[List.length_append,take_log]
 unfold ovPages
 rw[List.length_map,List.length_range,take_len]
def PlAns (Xs:Nat->Prop) (P U:Nat) (pv nv:Value) (a b:Nat) (tx:Int) (s:PSt) (Q:Nat->Prop) (t:T) (w:World) (e:Ending) (w':World):Prop:=∃ (v':Value) (Q':Nat->Prop) (pa:Option Addr) (A pc:Nat) (na:Option Addr) (Bn nc:Nat),e=.returned v'∧SN w' Q' (placeT t s).1 v'∧PAt Xs w' P U (.slice pa A pc) A (.slice na Bn nc) Bn tx (placeT t s).2∧Fr (ZP P U pv nv) w w'∧(∀ g,ZP P U (.slice pa A pc) (.slice na Bn nc) g->ZP P U pv nv g∨w.heap.size<=g)∧(∀ g,Q' g->(Q g∨w.heap.size<=g)∧¬ ZP P U (.slice pa A pc) (.slice na Bn nc) g∧g<w'.heap.size)∧A<=a+21*t.nodes∧Bn<=b+21*t.nodes∧A=(placeT t s).2.log.length∧Bn=(placeT t s).2.log.length
def PlCall (t:T):Prop:=∀ (Xs:Nat->Prop) (P U:Nat) (pa:Option Addr) (a pc:Nat) (na:Option Addr) (b nc:Nat) (tx:Int) (s:PSt) (w:World) (Q:Nat->Prop) (v:Value),(∀ g,Xs g->g<w.heap.size)->PAt Xs w P U (.slice pa a pc) a (.slice na b nc) b tx s->a=s.log.length->b=s.log.length->SN w Q t v->(∀ g,Q g->g<w.heap.size∧¬ ZP P U (.slice pa a pc) (.slice na b nc) g)->a+21*t.nodes<=1000000->b+21*t.nodes<=1000000->Calls Tryz.prog 21 #[.pointer (some ⟨P,0,none⟩),v] w fun e w'=>PlAns Xs P U (.slice pa a pc) (.slice na b nc) a b tx s Q t w e w'
theorem info_EntP:(Tryz.prog.info? 98).map (fun i=>(i.zero,i.size,i.bytes))=some (some (.agg #[.string ByteArray.empty,.string ByteArray.empty,.int .i64 0,.int .i64 0]),4,48):=by kernel_rfl
theorem info_KidP:(Tryz.prog.info? 96).map (fun i=>(i.zero,i.size,i.bytes))=some (some (.agg #[.string ByteArray.empty,.int .i64 0]),2,24):=by kernel_rfl
theorem owns_nilP (w:World) (base e size:Nat):w.ownsRow base e size (.slice none 0 0) 0 []:=⟨by simp,Or.inl ⟨rfl,rfl⟩⟩
theorem zip_getDP {α β:Type}:∀ (xs:List α) (ys:List β) (i:Nat) (a:α) (b:β),i<xs.length->i<ys.length->(xs.zip ys).getD i (a,b)=(xs.getD i a,ys.getD i b)
 | [],_,i,a,b,h,_=>by simp at h
 | _::_,[],i,a,b,_,h=>by simp at h
 | x::r,y::q,0,a,b,_,_=>rfl
 | x::r,y::q,i+1,a,b,h,h2=>zip_getDP r q i a b (by simpa using h) (by simpa using h2)
theorem box4P {w:World} {N:Nat} {v0 v1 v2 v3:Value} {t:TypeId} (h:w.heap[N]?=some (.cells #[v0,v1,v2,v3] t)):w.cell? ⟨N,0,none⟩=some v0∧w.cell? ⟨N,1,none⟩=some v1∧w.cell? ⟨N,2,none⟩=some v2∧w.cell? ⟨N,3,none⟩=some v3:=by
 simp[World.cell?,h]
theorem cell_four_newP (w:World) (a b c d:Value) (t:TypeId):∀ j u,[a,b,c,d][j]?=some u->(w.alloc (.cells #[a,b,c,d] t)).cell? ((⟨w.heap.size,0,none⟩:Addr).add j)=some u:=by
 intro j u h
 match j,h with
 | 0,h=>simpa[Addr.add] using h
 | 1,h=>simpa[Addr.add] using h
 | 2,h=>simpa[Addr.add] using h
 | 3,h=>simpa[Addr.add] using h
theorem LfSt.row {X:Nat->Prop} {w wr:World} {N P U m A pc Bn nc e sz n bs:Nat} {pv0 nv0 ov ev:Value} {bx:Array Value} {ol:List Int} {pa na:Option Addr} {tx:Int} {s:PSt} {xs:List Value} (h:LfSt X w wr N P U pv0 nv0 bx ov m ol pa A pc na Bn nc tx s) (ho:wr.ownsRow bs e sz ev n xs) (h1:e≠49) (h2:e≠2) (h3:e≠55) (h4:e≠4) (h5:e≠93) {g:Nat} (hg:LB N P U (.slice pa A pc) (.slice na Bn nc) ov g):ev.ownBlock≠some g:=fun q=>by
 obtain⟨x1,p1⟩:=h.pat.prow
 obtain⟨x2,p2⟩:=h.pat.nrow
 rcases hg with rfl | rfl | e' | rfl | rfl | e' | e'
 ·exact own_ne_ty ho h.k0 h1 q
 ·exact own_ne_ty ho h.k1 h1 q
 ·exact rows_ne ho h.over h2 q e'
 ·exact own_ne_ty ho h.pat.box h3 q
 ·exact own_ne_ty ho h.pat.us h4 q
 ·exact rows_ne ho p1 h5 q e'
 ·exact rows_ne ho p2 h2 q e'
theorem LfSt.push {X:Nat->Prop} {w wr w1:World} {N P U m A pc Bn nc e sz n i:Nat} {pv0 nv0 ov ev u:Value} {bx:Array Value} {ol:List Int} {pa na:Option Addr} {tx:Int} {s:PSt} {xs:List Value} (h:LfSt X w wr N P U pv0 nv0 bx ov m ol pa A pc na Bn nc tx s) (ho:wr.ownsRow (N+4) e sz ev n xs) (h1:e≠49) (h2:e≠2) (h3:e≠55) (h4:e≠4) (h5:e≠93) (hg:wr.grownBy w1 ev.ownBlock) (hK:∀ g,ev.ownBlock=some g->X g∨NK wr g) (hK2:X (N+2)∨NK w1 (N+2)):LfSt X w (w1.setCell ⟨N+2,i,none⟩ u) N P U pv0 nv0 bx ov m ol pa A pc na Bn nc tx s:=by
 have l1:=h.keep (Fr.of_grown (S:=fun g=>ev.ownBlock=some g) hg (fun g e=>e)) (fun g hg q=>h.row ho h1 h2 h3 h4 h5 hg q) (fun g q=>by have:=(ho.lt g q).1;omega) hK
 exact l1.keep (fr_setT w1 (N+2) i u) (fun g hg q=>by have:=(l1.lb hg).2;omega) (fun g q=>by omega) (fun g q=>q ▸ hK2)
theorem PgSt.pushE {w w1:World} {N xm xc em ec ec':Nat} {kd tx:Int} {xa ea ea':Option Addr} {ks:List PK} {es es':List PE} (h:PgSt w N kd tx xa xm xc ea em ec ks es) (ho:w1.ownsRow (N+4) 98 4 (.slice ea' (em+1) ec') (em+1) (rowsOf entCells es')) (hg:w.grownBy w1 (Value.slice ea em ec).ownBlock):PgSt (w1.setCell ⟨N+2,6,none⟩ (.slice ea' (em+1) ec')) N kd tx xa xm xc ea' (em+1) ec' ks es':=by
 obtain⟨k,o1,o2⟩:=h
 have hf:Fr (fun g=>(Value.slice ea em ec).ownBlock=some g) w w1:=Fr.of_grown hg (fun g e=>e)
 have k1:=(hf.block (N+2) (Array.getElem?_eq_some_iff.1 k).1 (fun q=>by have:=(o2.lt _ q).1;omega)).trans k
 have o3:=owns_fr o1 hf (fun g q q'=>rows_ne o1 o2 (by decide) q q')
 have fs:=fr_setT w1 (N+2) 6 (.slice ea' (em+1) ec')
 exact⟨by rw[heap_setT k1];rfl,owns_fr o3 fs (fun g q q'=>by have:=(o3.lt g q).1;omega),owns_fr ho fs (fun g q q'=>by have:=(ho.lt g q).1;omega)⟩
theorem over_setI {l r:List Int} {i:Nat} {x:Int} (h:l.length=i) (h2:i<r.length):(l++r.drop i).set i x=(l++[x])++r.drop (i+1):=by
 subst h
 rw[List.set_append_right _ _ (Nat.le_refl _),Nat.sub_self,List.drop_eq_getElem_cons h2,List.set_cons_zero,List.append_assoc]
 rfl
theorem over_nextI {l r:List Int} {i:Nat} {x:Int} (hx:r.getD i 0=x) (h2:i<r.length):l++r.drop i=(l++[x])++r.drop (i+1):=by
 rw[List.drop_eq_getElem_cons h2,<-hx]
 simp[List.getD,List.getElem?_eq_getElem h2]
theorem setT_size (w:World) (g i:Nat) (v:Value):(w.setCell ⟨g,i,none⟩ v).heap.size=w.heap.size:=by simp[World.setCell]
theorem l4Place_on (t:T) (hp:t.page≠0):PlCall t:=by
 intro Xs P U pa a pc na b nc tx s w Q v hXs hPA hal0 hbl0 hSN hQ ha hb
 obtain⟨ka,kn,kc,va,vn,vc,oa,on,oc,ya,yc,css,rfl,hX⟩:=hSN
 obtain⟨N,hN⟩:∃ N,w.heap.size=N:=⟨_,rfl⟩
 obtain⟨lf,hlf⟩:∃ lf,t.leaf=lf:=⟨_,rfl⟩
 obtain⟨pg,hpg⟩:∃ pg,t.page=pg:=⟨_,rfl⟩
 obtain⟨yn,hyn⟩:∃ yn,t.kids.length=yn:=⟨_,rfl⟩
 have HPL:Hid (placeT t s=(t,s)):=by show _=_;rw[placeT_eq,if_pos hp]
 have HSN:Hid (SN w Q t (.agg #[.bool t.leaf,.int .i64 t.page,.slice ka kn kc,.slice va vn vc,.slice oa on oc,.slice ya t.kids.length yc])):=⟨ka,kn,kc,va,vn,vc,oa,on,oc,ya,yc,css,rfl,hX⟩
 rw[hlf,hpg,hyn] at HSN
 rw[hlf,hpg,hyn]
 have hp3:¬ pg=0:=by rw[<-hpg];exact hp
 have hp2:(pg != 0)=true:=by simpa using hp3
 have hp4:(pg == 0)=false:=by simpa using hp3
 obtain⟨W,hW⟩:∃ W,W=((w.alloc (.cells #[.bool lf,.int .i64 pg,.slice ka kn kc,.slice va vn vc,.slice oa on oc,.slice ya yn yc] 49)).alloc (.cells #[.bool false,.int .i64 0,.slice none 0 0,.slice none 0 0,.slice none 0 0,.slice none 0 0] 49)):=⟨_,rfl⟩
 have al:=alloc2N w (.cells #[.bool lf,.int .i64 pg,.slice ka kn kc,.slice va vn vc,.slice oa on oc,.slice ya yn yc] 49) (.cells #[.bool false,.int .i64 0,.slice none 0 0,.slice none 0 0,.slice none 0 0,.slice none 0 0] 49)
 rw[<-hW,hN] at al
 obtain⟨k0,k1,sW,bW⟩:=al
 obtain⟨q0,q1,q2,q3,q4,q5⟩:=box6g k0
 obtain⟨z0,z1,z2,z3,z4,z5⟩:=box6g k1
 have f1:=thawT k1
 have l0:N<W.heap.size:=by omega
 have l1:N+1<W.heap.size:=by omega
 have HX:Hid (PAt Xs w P U (.slice pa a pc) a (.slice na b nc) b tx s∧∀ g,Q g->g<w.heap.size∧¬ ZP P U (.slice pa a pc) (.slice na b nc) g):=⟨hPA,hQ⟩
 have fb:=put6T_fr W (N+1) (.bool lf) (.int .i64 pg) (.slice ka kn kc) (.slice va vn vc) (.slice oa on oc) (.slice ya yn yc)
 have kf:=put6T_box k1 (.bool lf) (.int .i64 pg) (.slice ka kn kc) (.slice va vn vc) (.slice oa on oc) (.slice ya yn yc)
 obtain⟨y0,y1,y2,y3,y4,y5⟩:=box6g kf
 have HB:Hid (Below w.heap.size w (put6T W (N+1) (.bool lf) (.int .i64 pg) (.slice ka kn kc) (.slice va vn vc) (.slice oa on oc) (.slice ya yn yc))):=by show Below _ _ _;rw[hN];exact bW.trans (fb.below (by omega) (fun g e=>by omega))
 have HAL:Hid (a=s.log.length∧b=s.log.length):=⟨hal0,hbl0⟩
 clear hal0 hbl0 hPA hQ hX hp hlf hpg hyn ha hb fb kf
 go_enter Tryz.func21,Tryz.ntmps21
 go_upto_region 1 with fail
 rw[<-hW]
 clear hW
 go_upto_region 2 with fail
 go_wp2_with fail
 rw[put6T_eq]
 refine bodyPost_ret (v:=.agg #[.bool lf,.int .i64 pg,.slice ka kn kc,.slice va vn vc,.slice oa on oc,.slice ya yn yc]) (by simp[results,Tryz.results21,go_sem,y0,y1,y2,y3,y4,y5]) rfl ?_
 have hb:=HB.out
 refine⟨_,Q,pa,a,pc,na,b,nc,rfl,?_,?_,Fr.of_below hb,fun g e=>.inl e,fun g e=>⟨.inl e,(HX.out.2 g e).2,Nat.lt_of_lt_of_le (HX.out.2 g e).1 hb.size⟩,Nat.le_add_right _ _,Nat.le_add_right _ _,by rw[HPL.out];exact HAL.out.1,by rw[HPL.out];exact HAL.out.2⟩
 ·rw[HPL.out];exact HSN.out.below hb
 ·rw[HPL.out];exact HX.out.1.below hb
theorem l4Place_leaf (t:T) (hl:t.leaf=true) (hp:t.page=0) (hg:∃ r,t.good r=true) (hne:Neat t):PlCall t:=by
 intro Xs P U pa a pc na b nc tx s w Q v hXs hPA hal0 hbl0 hSN hQ ha hb
 obtain⟨ka,kn,kc,va,vn,vc,oa,on,oc,ya,yc,css,rfl,hX⟩:=hSN
 obtain⟨r,hg⟩:=hg
 have hgp:=good_parts hg
 obtain⟨g1,g2,g3⟩:=hgp.2.1 hl
 have hk4:t.keys.length<=4:=by have:=hgp.1.2;simpa[T.size,hl] using this
 have hky:t.kids=[]:=((neat_eq t).1 hne).1 hl
 obtain⟨N,hN⟩:∃ N,w.heap.size=N:=⟨_,rfl⟩
 obtain⟨Ys,hYs⟩:∃ Ys:Nat->Prop,Ys=fun g=>Xs g∨N<=g:=⟨_,rfl⟩
 have HYS:Hid ((∀ g,N<=g->Ys g)∧(∀ g,Xs g->Ys g)∧∀ g,Xs g->g<N):=by
  rw[hYs]
  exact⟨fun g e=>.inr e,fun g e=>.inl e,fun g e=>hN ▸ hXs g e⟩
 replace hPA:PAt Ys w P U (.slice pa a pc) a (.slice na b nc) b tx s:=hPA.less (fun g q hlt=>by
  rw[hYs] at q
  rcases q with q | q
  ·exact q
  ·omega)
 have HAL0:Hid (a=s.log.length∧b=s.log.length):=⟨hal0,hbl0⟩
 clear hYs hXs hal0 hbl0
 obtain⟨m,hm⟩:∃ m,t.keys.length=m:=⟨_,rfl⟩
 obtain rfl:kn=m:=by have:=hX.nx.keys.1;omega
 obtain rfl:vn=kn:=by have:=hX.nx.vals.1;omega
 obtain rfl:on=vn:=by have:=hX.nx.over.1;omega
 have m4:on<=4:=by omega
 have hnd:1<=t.nodes:=by rw[T.nodes_eq];omega
 have ha6:a+21<=1000000:=by omega
 have hb6:b+21<=1000000:=by omega
 rw[hl,hp,hky]
 have HX:Hid (QX w w.heap.size Q t ka on kc va on vc oa on oc ya yc css):=hX
 have HQ:Hid (∀ g,Q g->g<N∧¬ ZP P U (.slice pa a pc) (.slice na b nc) g):=fun g e=>hN ▸ hQ g e
 have HZ0:Hid (∀ g,ZP P U (.slice pa a pc) (.slice na b nc) g->g<N):=fun g e=>hN ▸ hPA.lt e
 have HPL:Hid (placeT t s=endP true t.keys t.vals [] (overP (t.vals.zip t.over) s)):=by show _=_;rw[placeT_eq,if_neg (by simp[hp]),hl,hky];rfl
 have HLN:Hid (t.vals.length=on∧t.over.length=on∧t.keys.length=on∧1<=t.nodes):=⟨by omega,by omega,by omega,hnd⟩
 have HST:Hid (∀ i,i<on->(t.vals.getD i ByteArray.empty).size<=400):=fun i hi=>by
  have h1:(t.vals.getD i ByteArray.empty,t.over.getD i 0) ∈ t.vals.zip t.over:=by
   rw[List.mem_iff_getElem]
   refine⟨i,by simp;omega,?_⟩
   simp[List.getD,List.getElem?_eq_getElem (show i<t.vals.length by omega),List.getElem?_eq_getElem (show i<t.over.length by omega)]
  exact stand_400 (g3 _ h1)
 have HZR:Hid (∀ W:World,Fr (ZP P U (.slice pa a pc) (.slice na b nc)) w W->QX W W.heap.size Q t ka on kc va on vc oa on oc ya yc css):=fun W hf=>HX.out.keep (fun g hq hlt=>hf.block g hlt (HQ.out g hq).2) (fun _ h=>h) hf.size
 obtain⟨ip,hip,hp0,hp1,hp2⟩:=info_parts info_PageP
 obtain⟨ii,hii,hj0,hj1,hj2⟩:=info_parts info_int64
 obtain⟨ie,hie,he0,he1,he2⟩:=info_parts info_EntP
 have hp02:((0:Int) != 0)=false:=rfl
 obtain⟨W2,hW2⟩:∃ W2,W2=((w.alloc (.cells #[.bool true,.int .i64 0,.slice ka on kc,.slice va on vc,.slice oa on oc,.slice ya 0 yc] 49)).alloc (.cells #[.bool false,.int .i64 0,.slice none 0 0,.slice none 0 0,.slice none 0 0,.slice none 0 0] 49)):=⟨_,rfl⟩
 have al:=alloc2N w (.cells #[.bool true,.int .i64 0,.slice ka on kc,.slice va on vc,.slice oa on oc,.slice ya 0 yc] 49) (.cells #[.bool false,.int .i64 0,.slice none 0 0,.slice none 0 0,.slice none 0 0,.slice none 0 0] 49)
 rw[<-hW2,hN] at al
 obtain⟨k02,k12,sW2,bW2⟩:=al
 have HPA2:Hid (PAt Ys W2 P U (.slice pa a pc) a (.slice na b nc) b tx s):=hPA.below (by rw[hN];exact bW2)
 obtain⟨b0,b1,b2,b3,b4⟩:=box5P HPA2.out.box
 have lP:=HPA2.out.lt (.inl rfl)
 obtain⟨W,hW⟩:∃ W,W=((W2.alloc (.cells #[.int .i64 2,.int .i64 tx,.int .i64 0,.int .i64 0,.int .i64 0,.slice none 0 0,.slice none 0 0,.int .i64 0,.string ⟨#[]⟩] 93)).alloc (.cells #[] 49)):=⟨_,rfl⟩
 have al:=alloc2N W2 (.cells #[.int .i64 2,.int .i64 tx,.int .i64 0,.int .i64 0,.int .i64 0,.slice none 0 0,.slice none 0 0,.int .i64 0,.string ⟨#[]⟩] 93) (.cells #[] 49)
 rw[<-hW,sW2] at al
 obtain⟨k2,k3,sW,bWW⟩:=al
 have k0:=(bWW.block N (by omega)).trans k02
 have k1:=(bWW.block (N+1) (by omega)).trans k12
 have bW:Below N w W:=bW2.trans (bWW.mono (by omega))
 obtain⟨q0,q1,q2,q3,q4,q5⟩:=box6g k0
 have f0:=thawT k0
 have l0:N<W.heap.size:=by omega
 have HPA:Hid (PAt Ys w P U (.slice pa a pc) a (.slice na b nc) b tx s):=hPA
 have hE:World.ownsRow _ _ _ _ _ _ _:=emptyE (W.setCell ⟨N,5,none⟩ (.slice (some ⟨N+3,0,none⟩) 0 0)) 2 1 (N+4) (by rw[setT_size];omega)
 have hS6:(W.setCell ⟨N,5,none⟩ (.slice (some ⟨N+3,0,none⟩) 0 0)).heap.size=N+4:=by rw[setT_size,sW]
 rw[hS6] at hE
 have fS:=fr_setT W N 5 (.slice (some ⟨N+3,0,none⟩) 0 0)
 have bS:Below N w (W.setCell ⟨N,5,none⟩ (.slice (some ⟨N+3,0,none⟩) 0 0)):=bW.trans (fS.below (by omega) (fun g e=>by omega))
 have bA:=(Below.refl _ (W.setCell ⟨N,5,none⟩ (.slice (some ⟨N+3,0,none⟩) 0 0))).alloc (Nat.le_refl _) (.cells #[] 2)
 have bT:Below N w ((W.setCell ⟨N,5,none⟩ (.slice (some ⟨N+3,0,none⟩) 0 0)).alloc (.cells #[] 2)):=bS.trans (bA.mono (by omega))
 have hsrc:SrcAt ((W.setCell ⟨N,5,none⟩ (.slice (some ⟨N+3,0,none⟩) 0 0)).alloc (.cells #[] 2)) _ 1 on (.slice oa on oc) (rowsOf intCells t.over):=srcRows (fun _=>rfl) (one_int _) (HZR.out _ (Fr.of_below (by rw[hN];exact bT))).nx.over (by omega)
 clear hX hQ hPA hgp g1 g2 g3 hl hp hky hg hne hm hnd ha hb hk4
 obtain⟨c0,c1,c2,c3,c4,c5⟩:=box6g k02
 have l02:N<W2.heap.size:=by omega
 go_enter Tryz.func21,Tryz.ntmps21
 go_upto_region 1 with fail
 rw[<-hW2]
 clear hW2
 go_upto_region 5 with fail
 try simp only[sW2]
 rw[<-hW]
 clear hW c0 c1 c2 c3 c4 c5 l02 b0 b1 b2 b3 b4
 go_wp2_with fail
 go_loopw [6,7] (fun k i wr=>k=.slice (some ⟨N+3,0,none⟩) 0 0∧i=.int .i64 0∧wr=W) (fun _ _ _=>0)
 case atStart=>exact⟨rfl,rfl,rfl⟩
 case round =>
  obtain⟨rfl,rfl,rfl⟩:=hrel
  go_upto_region 16 with (at_builtin;refine wpList_append_S _ rfl _ _ 25 rfl (N+4) 2 ii _ 1 8 Tryz.underlying25 hii hj0 hj1 hj2 rfl (by decide) (by decide) _ 0 [] rfl hE (by omega) _ _ on (rowsOf intCells t.over) rfl hsrc (by simp[hS6]) ?_;intro v6 w6 h1 h2 h3)
  have hO6:w6.ownsRow (N+4) 2 1 v6 on (rowsOf intCells t.over):=by have:=h1;rwa [Nat.zero_add,List.nil_append] at this
  obtain⟨xa,xc,rfl⟩:=own_shape hO6
  have HB6:Hid (Below (N+4) (wr.setCell ⟨N,5,none⟩ (.slice (some ⟨N+3,0,none⟩) 0 0)) w6):=by
   have hg:World.grownBy _ w6 (some (N+4)):=h2
   exact (bA.mono (by omega)).trans ((Fr.of_grown (S:=fun g=>g=N+4) hg (fun g e=>(Option.some.inj e).symm)).below (by have:=bA.size;omega) (fun g e=>by omega))
  have s6:=HB6.out.size
  have kk0:=(HB6.out.block N (by omega)).trans (heap_setT k0 5 (.slice (some ⟨N+3,0,none⟩) 0 0))
  have kk1:=(HB6.out.block (N+1) (by omega)).trans ((fS.block (N+1) (by omega) (by omega)).trans k1)
  have kk2:=(HB6.out.block (N+2) (by omega)).trans ((fS.block (N+2) (by omega) (by omega)).trans k2)
  have b6:Below N w w6:=bS.trans (HB6.out.mono (by omega))
  have HL6:Hid (LfSt Ys w w6 N P U (.slice pa a pc) (.slice na b nc) #[.bool true,.int .i64 0,.slice ka on kc,.slice va on vc,.slice oa on oc,.slice (some ⟨N+3,0,none⟩) 0 0] (.slice xa on xc) on ((overP ((t.vals.zip t.over).take 0) s).1++t.over.drop 0) pa a pc na b nc tx (overP ((t.vals.zip t.over).take 0) s).2):=⟨Fr.of_below (by rw[hN];exact b6),by simpa using kk0,kk1,hO6,HPA.out.below (by rw[hN];exact b6),fun g e=>.inl e,HZ0.out,hN,fun g e e'=>by have:=(hO6.lt g e).1;have:=HZ0.out g (.inr (.inr (.inr e')));omega,by rw[hS6] at s6;omega⟩
  have HPG6:Hid (PgSt w6 N 2 tx none 0 0 none 0 0 [] (esC t s 0)):=⟨kk2,owns_nilP _ _ _ _,by show World.ownsRow _ _ _ _ _ _ (rowsOf entCells (esC t s 0));rw[show esC t s 0=[] from rfl];exact owns_nilP _ _ _ _⟩
  clear h1 h2 h3 hE hS6 fS bS bA bT hsrc k0 k1 k2 k3 sW bWW bW bW2 sW2 k02 k12 HPA2 q0 q1 q2 q3 q4 q5 f0 l0 kk0 kk1 kk2 b6 s6 HB6 hO6 lP HPA
  clear W2
  go_wp2_with fail
  go_loopg [11] on (fun gk iv wq=>∃ (i:Nat) (pa1:Option Addr) (A pc1:Nat) (na1:Option Addr) (Bn nc1:Nat) (ea:Option Addr) (ec:Nat),i<=on∧gk=on - i∧iv=.int .i64 (i:Int)∧Hid (LfSt Ys w wq N P U (.slice pa a pc) (.slice na b nc) #[.bool true,.int .i64 0,.slice ka on kc,.slice va on vc,.slice oa on oc,.slice (some ⟨N+3,0,none⟩) 0 0] (.slice xa on xc) on ((overP ((t.vals.zip t.over).take i) s).1++t.over.drop i) pa1 A pc1 na1 Bn nc1 tx (overP ((t.vals.zip t.over).take i) s).2)∧Hid (PgSt wq N 2 tx none 0 0 ea i ec [] (esC t s i))∧A<=a+5*i∧Bn<=b+5*i∧Hid (A=(overP ((t.vals.zip t.over).take i) s).2.log.length∧Bn=(overP ((t.vals.zip t.over).take i) s).2.log.length))
  case atStart=>exact⟨0,pa,a,pc,na,b,nc,none,0,Nat.zero_le _,rfl,rfl,HL6,HPG6,Nat.le_refl _,Nat.le_refl _,HAL0⟩
  case round =>
   clear HL6 HPG6
   obtain⟨i,pa1,A,pc1,na1,Bn,nc1,ea,ec,hi,rfl,rfl,HL,HP,hA,hB,HAL⟩:=hrel
   by_cases hlt:i<on
   ·have hR:=HZR.out wr HL.out.fr
    obtain⟨kb,ko,rfl,hkb,hkc⟩:=hR.nx.keys.2.2.2.2 (by omega)
    obtain⟨vb,vo,rfl,hvb,hvc⟩:=hR.nx.vals.2.2.2.2 (by omega)
    obtain⟨G,rfl⟩:=owns_someD HL.out.over (by omega)
    have hks:=hkc i hlt 0 (by omega)
    have hvs:=hvc i hlt 0 (by omega)
    obtain⟨k,hk⟩:∃ k,t.keys.getD i ByteArray.empty=k:=⟨_,rfl⟩
    obtain⟨v,hv⟩:∃ v,t.vals.getD i ByteArray.empty=v:=⟨_,rfl⟩
    have hv4:v.size<=400:=by rw[<-hv];exact HST.out i hlt
    obtain⟨x,hx⟩:∃ x,t.over.getD i 0=x:=⟨_,rfl⟩
    have HSO:Hid (overP ((t.vals.zip t.over).take (i+1)) s=((overP ((t.vals.zip t.over).take i) s).1++[if 8<v.size∧x=0 then (valP v (overP ((t.vals.zip t.over).take i) s).2).1 else x],if 8<v.size∧x=0 then (valP v (overP ((t.vals.zip t.over).take i) s).2).2 else (overP ((t.vals.zip t.over).take i) s).2)):=by
     show _=_
     rw[take_snocD (t.vals.zip t.over) i (ByteArray.empty,0) (by simp;have:=HLN.out;omega),over_snoc]
     have e:(t.vals.zip t.over).getD i (ByteArray.empty,0)=(v,x):=by
      rw[zip_getDP _ _ _ _ _ (by have:=HLN.out;omega) (by have:=HLN.out;omega),hv,hx]
     rw[e]
    have ck:wr.cell? ⟨kb,ko+i,none⟩=some (.string k):=by rw[<-hk];simpa[strCells] using hks
    have cv:wr.cell? ⟨vb,vo+i,none⟩=some (.string v):=by rw[<-hv];simpa[strCells] using hvs
    have lw0:=(HL.out.lb (.inl rfl)).1
    have HRD:Hid (∀ V:World,Below wr.heap.size wr V->(V.cell? ⟨N,2,none⟩=some (.slice (some ⟨kb,ko,none⟩) on kc)∧V.cell? ⟨N,3,none⟩=some (.slice (some ⟨vb,vo,none⟩) on vc)∧V.cell? ⟨kb,ko+i,none⟩=some (.string k)∧V.cell? ⟨vb,vo+i,none⟩=some (.string v))∧N<V.heap.size∧kb<V.heap.size∧vb<V.heap.size):=fun V hV=>by
     obtain⟨_,_,d2,d3,_,_⟩:=box6g ((hV.block N lw0).trans HL.out.k0)
     have:=hV.size
     exact⟨⟨d2,d3,(hV.cell (p:=⟨kb,ko+i,none⟩) hkb.2).trans ck,(hV.cell (p:=⟨vb,vo+i,none⟩) hvb.2).trans cv⟩,by omega,by have:=hkb.2;omega,by have:=hvb.2;omega⟩
    obtain⟨q0,q1,q2,q3,q4,q5⟩:=box6g HL.out.k0
    have HXO:Hid (t.over.getD i 0=x):=hx
    have HKV:Hid (t.keys.getD i ByteArray.empty=k∧t.vals.getD i ByteArray.empty=v):=⟨hk,hv⟩
    clear hR hkc hvc hks hvs hk hv hx
    go_upto_region 19 with fail
    refine wp_region_noPanic ?_
    refine wp_region_held_drew (S:=(fun w':World=>Below wr.heap.size wr w')) (by kernel_rfl) ((Below.refl _ _).drew) (fun hHeld=>?_)
    refine tY 0 (.pointer (some ⟨N,2,none⟩)) .z (by kernel_rfl) (by rfl) ?_ ‹_› ?_
    ·intro wq hSw;go_simp
    refine tY 1 (.slice (some ⟨kb,ko,none⟩) on kc) (.s .z) (by kernel_rfl) (by rfl) ?_ ‹_› ?_
    ·intro wq hSw;(try dsimp only at hSw);obtain⟨⟨y2,y3,yk,yv⟩,ln,lk,lv⟩:=HRD.out wq hSw;go_simp
    refine tY 2 (.int .i64 (i:Int)) (.s (.s .z)) (by kernel_rfl) (by rfl) ?_ ‹_› ?_
    ·intro wq hSw;go_simp
    refine tY 3 (.pointer (some ⟨kb,ko+i,none⟩)) (.s (.s (.s .z))) (by kernel_rfl) (by rfl) ?_ ‹_› ?_
    ·intro wq hSw;go_simp
    try simp only[Act.put,q1,q2,q3]
    refine tY 4 (.string k) (.s (.s (.s (.s .z)))) (by kernel_rfl) (by rfl) ?_ ‹_› ?_
    ·intro wq hSw;(try dsimp only at hSw);obtain⟨⟨y2,y3,yk,yv⟩,ln,lk,lv⟩:=HRD.out wq hSw;go_simp
    refine tY 5 (.pointer (some ⟨N,3,none⟩)) (.f .z) (by kernel_rfl) (by rfl) ?_ ‹_› ?_
    ·intro wq hSw;go_simp
    refine tY 6 (.slice (some ⟨vb,vo,none⟩) on vc) (.f (.s .z)) (by kernel_rfl) (by rfl) ?_ ‹_› ?_
    ·intro wq hSw;(try dsimp only at hSw);obtain⟨⟨y2,y3,yk,yv⟩,ln,lk,lv⟩:=HRD.out wq hSw;go_simp
    refine tY 7 (.int .i64 (i:Int)) (.f (.s (.s .z))) (by kernel_rfl) (by rfl) ?_ ‹_› ?_
    ·intro wq hSw;go_simp
    try simp only[Act.put,q1,q2,q3]
    refine tY 8 (.pointer (some ⟨vb,vo+i,none⟩)) (.f (.s (.s (.s .z)))) (by kernel_rfl) (by rfl) ?_ ‹_› ?_
    ·intro wq hSw;go_simp
    refine tY 9 (.string v) (.f (.s (.s (.s (.s .z))))) (by kernel_rfl) (by rfl) ?_ ‹_› ?_
    ·intro wq hSw;(try dsimp only at hSw);obtain⟨⟨y2,y3,yk,yv⟩,ln,lk,lv⟩:=HRD.out wq hSw;go_simp
    refine tY 10 (.pointer (some ⟨N,3,none⟩)) (.t .z) (by kernel_rfl) (by rfl) ?_ ‹_› ?_
    ·intro wq hSw;go_simp
    refine tY 11 (.slice (some ⟨vb,vo,none⟩) on vc) (.t (.s .z)) (by kernel_rfl) (by rfl) ?_ ‹_› ?_
    ·intro wq hSw;(try dsimp only at hSw);obtain⟨⟨y2,y3,yk,yv⟩,ln,lk,lv⟩:=HRD.out wq hSw;go_simp
    try simp only[Act.put,q1,q2,q3]
    refine tY 12 (.int .i64 (i:Int)) (.t (.s (.s .z))) (by kernel_rfl) (by rfl) ?_ ‹_› ?_
    ·intro wq hSw;go_simp
    refine tY 13 (.pointer (some ⟨vb,vo+i,none⟩)) (.t (.s (.s (.s .z)))) (by kernel_rfl) (by rfl) ?_ ‹_› ?_
    ·intro wq hSw;go_simp
    refine tY 14 (.string v) (.t (.s (.s (.s (.s .z))))) (by kernel_rfl) (by rfl) ?_ ‹_› ?_
    ·intro wq hSw;(try dsimp only at hSw);obtain⟨⟨y2,y3,yk,yv⟩,ln,lk,lv⟩:=HRD.out wq hSw;go_simp
    refine tY 15 (.int .i64 (v.size:Int)) (.t (.f .z)) (by kernel_rfl) (by rfl) ?_ ‹_› ?_
    ·intro wq hSw;go_simp
    try simp only[Act.put,q1,q2,q3]
    refine tY 16 (.agg #[.string k,.string v,.int .i64 0,.int .i64 (v.size:Int)]) (.t (.f (.s .z))) (by kernel_rfl) (by rfl) ?_ ‹_› ?_
    ·intro wq hSw;go_simp
    try simp only[Act.put,q1,q2,q3]
    clear hHeld
    obtain⟨D,hD⟩:∃ D,wr.drew=D:=⟨_,rfl⟩
    have bD:Below wr.heap.size wr D:=by rw[<-hD];exact (Below.refl _ _).drew
    rw[hD]
    have sD:D.heap.size=wr.heap.size:=by rw[<-hD];rfl
    have hHeld:=bD
    clear hD
    refine wpAnyH_ready (rs:=[17]) (by kernel_rfl) (by simp) ?_
    refine rdA (.t (.f (.s (.s .z)))) (fun K hK=>?_) AllReadyH.nil
    go_simp
    have hal:=(Below.refl D.heap.size D).alloc (Nat.le_refl _) (.cells #[.string ⟨#[]⟩,.string ⟨#[]⟩,.int .i64 0,.int .i64 0] 98)
    have kE:=heap_alloc_new D (.cells #[.string ⟨#[]⟩,.string ⟨#[]⟩,.int .i64 0,.int .i64 0] 98)
    rw[sD] at kE
    have bX:Below wr.heap.size wr (D.alloc (.cells #[.string ⟨#[]⟩,.string ⟨#[]⟩,.int .i64 0,.int .i64 0] 98)):=bD.trans (hal.mono (by omega))
    generalize D.alloc (.cells #[.string ⟨#[]⟩,.string ⟨#[]⟩,.int .i64 0,.int .i64 0] 98)=X at kE bX ⊢
    clear hal
    refine hK.out _ _ (bX) (fun hHeld=>?_)
    clear hK K
    try simp only[Act.put,q1,q2,q3]
    refine wpAnyH_ready (rs:=[18]) (by kernel_rfl) (by simp) ?_
    refine rdA (.t (.f (.s (.s (.s .z))))) (fun K hK=>?_) AllReadyH.nil
    obtain⟨x0,x1,x2,x3⟩:=box4P kE
    have fE:=thawT kE
    have lE:wr.heap.size<X.heap.size:=(Array.getElem?_eq_some_iff.1 kE).1
    have kY:((((X.setCell ⟨wr.heap.size,0,none⟩ (.string k)).setCell ⟨wr.heap.size,1,none⟩ (.string v)).setCell ⟨wr.heap.size,2,none⟩ (.int .i64 0)).setCell ⟨wr.heap.size,3,none⟩ (.int .i64 (v.size:Int))).heap[wr.heap.size]?=some (.cells #[.string k,.string v,.int .i64 0,.int .i64 (v.size:Int)] 98):=by
     have h9:=heap_setT (heap_setT (heap_setT (heap_setT kE 0 (.string k)) 1 (.string v)) 2 (.int .i64 0)) 3 (.int .i64 (v.size:Int))
     simpa using h9
    have bY:Below wr.heap.size wr ((((X.setCell ⟨wr.heap.size,0,none⟩ (.string k)).setCell ⟨wr.heap.size,1,none⟩ (.string v)).setCell ⟨wr.heap.size,2,none⟩ (.int .i64 0)).setCell ⟨wr.heap.size,3,none⟩ (.int .i64 (v.size:Int))):=bX.trans ((((fr_setT X wr.heap.size 0 (.string k)).trans (fr_setT _ wr.heap.size 1 (.string v))).trans (fr_setT _ wr.heap.size 2 (.int .i64 0))).trans (fr_setT _ wr.heap.size 3 (.int .i64 (v.size:Int))) |>.below bX.size (fun g e=>by omega))
    go_simp
    generalize (((X.setCell ⟨wr.heap.size,0,none⟩ (.string k)).setCell ⟨wr.heap.size,1,none⟩ (.string v)).setCell ⟨wr.heap.size,2,none⟩ (.int .i64 0)).setCell ⟨wr.heap.size,3,none⟩ (.int .i64 (v.size:Int))=Y at kY bY ⊢
    clear x0 x1 x2 x3 fE lE kE bX bD sD
    refine hK.out _ _ (bY) (fun hHeld=>?_)
    clear hK K
    try simp only[Act.put,q1,q2,q3]
    refine wpAnyH_done (by kernel_rfl) ?_ _
    refine NoPanic.normal ?_
    clear hHeld
    clear ck cv q0 q1 q2 q3 q4 q5
    have HLY:Hid (LfSt Ys w Y N P U (.slice pa a pc) (.slice na b nc) #[.bool true,.int .i64 0,.slice (some ⟨kb,ko,none⟩) on kc,.slice (some ⟨vb,vo,none⟩) on vc,.slice oa on oc,.slice (some ⟨N+3,0,none⟩) 0 0] (.slice (some ⟨G,0,none⟩) on xc) on ((overP ((t.vals.zip t.over).take i) s).1++t.over.drop i) pa1 A pc1 na1 Bn nc1 tx (overP ((t.vals.zip t.over).take i) s).2):=HL.out.below bY
    have HPY:Hid (PgSt Y N 2 tx none 0 0 ea i ec [] (esC t s i)):=HP.out.below bY
    obtain⟨E,hE⟩:∃ E,wr.heap.size=E:=⟨_,rfl⟩
    have HEE:Hid (∀ g,(Value.slice ea i ec).ownBlock=some g->g<E):=fun g q=>by
     obtain⟨_,_,o2⟩:=HP.out
     rw[<-hE]
     exact (o2.lt g q).2
    have HZE:Hid (∀ g,LB N P U (.slice pa1 A pc1) (.slice na1 Bn nc1) (.slice (some ⟨G,0,none⟩) on xc) g->g<E):=fun g q=>by rw[<-hE];exact (HL.out.lb q).1
    have HSZ:=HL.out.sz
    obtain⟨⟨y2,y3,yk,yv⟩,ln,lk,lv⟩:=HRD.out Y bY
    have hlong:=l3Long_t v (by unfold maxLen;omega) Y
    rw[hE] at kY bY HSZ ⊢
    have sY:=bY.size
    have lE:E<Y.heap.size:=(Array.getElem?_eq_some_iff.1 kY).1
    have HOI:Hid (∀ V:World,V.ownsRow (N+4) 2 1 (.slice (some ⟨G,0,none⟩) on xc) on (rowsOf intCells ((overP ((t.vals.zip t.over).take i) s).1++t.over.drop i))->V.cell? ⟨G,i,none⟩=some (.int .i64 x)):=fun V hV=>by
     have h9:=hV.cellAt i (by omega)
     have hl9:(overP ((t.vals.zip t.over).take i) s).1.length=i:=by rw[overP_len];simp;have:=HLN.out;omega
     rw[h9,ints_getP _ i (by rw[List.length_append,hl9,List.length_drop];have:=HLN.out;omega),<-HXO.out]
     simp[List.getD,List.getElem?_append_right,hl9]
    clear HRD HL HP hkb hvb hE lw0
    go_upto_if 93 with (go_at_call 44;refine hlong.mono ?_;rintro e w9 ⟨rfl,h9⟩;rw[h9];clear h9 w9)
    go_cut [] (fun wx=>∃ (pa2:Option Addr) (A2 pc2:Nat) (na2:Option Addr) (B2 nc2:Nat) (v2:ByteArray) (o2:Int),Hid (LfSt Ys w wx N P U (.slice pa a pc) (.slice na b nc) #[.bool true,.int .i64 0,.slice (some ⟨kb,ko,none⟩) on kc,.slice (some ⟨vb,vo,none⟩) on vc,.slice oa on oc,.slice (some ⟨N+3,0,none⟩) 0 0] (.slice (some ⟨G,0,none⟩) on xc) on ((overP ((t.vals.zip t.over).take (i+1)) s).1++t.over.drop (i+1)) pa2 A2 pc2 na2 B2 nc2 tx (overP ((t.vals.zip t.over).take (i+1)) s).2)∧Hid (PgSt wx N 2 tx none 0 0 ea i ec [] (esC t s i))∧wx.heap[E]?=some (.cells #[.string k,.string v2,.int .i64 o2,.int .i64 (v.size:Int)] 98)∧A2<=A+5∧B2<=Bn+5∧Hid (esC t s (i+1)=esC t s i++[(k,v2,o2,(v.size:Int))])∧Hid (A2=(overP ((t.vals.zip t.over).take (i+1)) s).2.log.length∧B2=(overP ((t.vals.zip t.over).take (i+1)) s).2.log.length))
    case first =>
     by_cases hlg:8<v.size
     ·by_cases hx0:x=0
      ·subst hx0
       have HS1:Hid (overP ((t.vals.zip t.over).take (i+1)) s=((overP ((t.vals.zip t.over).take i) s).1++[(valP v (overP ((t.vals.zip t.over).take i) s).2).1],(valP v (overP ((t.vals.zip t.over).take i) s).2).2)):=by show _=_;rw[HSO.out,if_pos ⟨hlg,rfl⟩,if_pos ⟨hlg,rfl⟩]
       have hval:=l4Value_any Ys P U A Bn _ _ tx (overP ((t.vals.zip t.over).take i) s).2 Y HLY.out.pat HAL.out.1 HAL.out.2 v (by omega) hv4 (by omega) (by omega)
       obtain⟨nn,hnn⟩:∃ nn,(valP v (overP ((t.vals.zip t.over).take i) s).2).1=nn:=⟨_,rfl⟩
       have HNN:Hid ((valP v (overP ((t.vals.zip t.over).take i) s).2).1=nn):=hnn
       rw[hnn] at hval
       clear hnn
       have cG:=HOI.out Y HLY.out.over
       have lG:=(HLY.out.over.lt G rfl).2
       have hJ5:(v.size+95) / 96<=5:=by omega
       obtain⟨J,hJ⟩:∃ J,(v.size+95) / 96=J:=⟨_,rfl⟩
       have HAL2:Hid (A+J=(overP ((t.vals.zip t.over).take (i+1)) s).2.log.length∧Bn+J=(overP ((t.vals.zip t.over).take (i+1)) s).2.log.length):=by
        show _∧_
        rw[HS1.out,val_log,hJ]
        exact⟨by rw[HAL.out.1],by rw[HAL.out.2]⟩
       have HES:Hid (esC t s (i+1)=esC t s i++[(k,⟨#[]⟩,nn,(v.size:Int))]):=by
        show _=_
        rw[es_next HLN.out hlt HKV.out HS1.out,HNN.out]
        unfold entC
        rw[if_pos hlg]
        rfl
       rw[hJ] at hval hJ5
       clear hJ
       go_wp2_with fail
       refine hval.mono ?_
       rintro e w9 ⟨pv2,nv2,rfl,hp9,hf9,hz9⟩
       obtain⟨xs9,hr9⟩:=hp9.prow
       obtain⟨pa2,pc2,rfl⟩:=own_shape hr9
       obtain⟨ys9,hs9⟩:=hp9.nrow
       obtain⟨na2,nc2,rfl⟩:=own_shape hs9
       have L9:=HLY.out.step hp9 hf9 hz9
       have P90:PgSt w9 N 2 tx none 0 0 ea i ec [] (esC t s i):=HPY.out.zp HLY.out hf9
       have s9:=hf9.size
       have kE9:w9.heap[E]?=_:=(hf9.block E lE (fun q=>by have:=HZE.out E (.inr (.inr (.inr q)));omega)).trans kY
       have cG9:w9.cell? ⟨G,i,none⟩=some (.int .i64 0):=HOI.out w9 L9.over
       have fG9:=L9.over.frozenAt i
       have lG9:=(L9.over.lt G rfl).2
       obtain⟨curG,kG⟩:=own_ty L9.over (g:=G) rfl
       have hGN:=(L9.over.lt G rfl).1
       have hGE:G<E:=HZE.out G (.inr (.inr (.inl rfl)))
       have LX:Hid (LfSt Ys w (w9.setCell ⟨G,i,none⟩ (.int .i64 nn)) N P U (.slice pa a pc) (.slice na b nc) #[.bool true,.int .i64 0,.slice (some ⟨kb,ko,none⟩) on kc,.slice (some ⟨vb,vo,none⟩) on vc,.slice oa on oc,.slice (some ⟨N+3,0,none⟩) 0 0] (.slice (some ⟨G,0,none⟩) on xc) on ((overP ((t.vals.zip t.over).take (i+1)) s).1++t.over.drop (i+1)) pa2 (A+J) pc2 na2 (Bn+J) nc2 tx (overP ((t.vals.zip t.over).take (i+1)) s).2):=by
        have:=L9.put (i:=i) nn
        show LfSt _ _ _ _ _ _ _ _ _ _ _ _ _ _ _ _ _ _ _ _
        rw[HS1.out,HNN.out]
        rw[show ((overP ((t.vals.zip t.over).take i) s).1++t.over.drop i).set i nn=((overP ((t.vals.zip t.over).take i) s).1++[nn])++t.over.drop (i+1) from over_setI (by rw[overP_len];simp;have:=HLN.out;omega) (by have:=HLN.out;omega)] at this
        exact this
       have P9:Hid (PgSt (w9.setCell ⟨G,i,none⟩ (.int .i64 nn)) N 2 tx none 0 0 ea i ec [] (esC t s i)):=P90.st kG (by decide) (by decide) (by omega) _
       have kEX:(w9.setCell ⟨G,i,none⟩ (.int .i64 nn)).heap[E]?=some (.cells #[.string k,.string v,.int .i64 0,.int .i64 (v.size:Int)] 98):=((fr_setT w9 G i (.int .i64 nn)).block E (by omega) (by omega)).trans kE9
       have HNE:Hid (∀ g,LB N P U (.slice pa2 (A+J) pc2) (.slice na2 (Bn+J) nc2) (.slice (some ⟨G,0,none⟩) on xc) g->g≠E):=fun g q e=>by
        rcases q with q | q | q | q
        ·omega
        ·omega
        ·have:G=g:=Option.some.inj q;omega
        ·rcases hz9 g q with q | q
         ·have:=HZE.out g (.inr (.inr (.inr q)));omega
         ·omega
       have HOJ:Hid (∀ V:World,V.ownsRow (N+4) 2 1 (.slice (some ⟨G,0,none⟩) on xc) on (rowsOf intCells ((overP ((t.vals.zip t.over).take (i+1)) s).1++t.over.drop (i+1)))->V.cell? ⟨G,i,none⟩=some (.int .i64 nn)):=fun V hV=>by
        have h9:=hV.cellAt i (by omega)
        have hl9:(overP ((t.vals.zip t.over).take i) s).1.length=i:=by rw[overP_len];simp;have:=HLN.out;omega
        rw[HS1.out,HNN.out] at h9
        rw[h9,ints_getP _ i (by simp[hl9])]
        simp[List.getD,List.getElem?_append_left,List.getElem?_append_right,hl9]
       clear hp9 hf9 hz9 hr9 hs9 L9 P90 kE9 hval kG cG lG
       have kE2:((w9.setCell ⟨G,i,none⟩ (.int .i64 nn)).setCell ⟨E,1,none⟩ (.string ⟨#[]⟩)).heap[E]?=some (.cells #[.string k,.string ⟨#[]⟩,.int .i64 0,.int .i64 (v.size:Int)] 98):=by simpa using heap_setT kEX 1 (.string ⟨#[]⟩)
       have fe1:=fr_setT (w9.setCell ⟨G,i,none⟩ (.int .i64 nn)) E 1 (.string ⟨#[]⟩)
       have L2:=LX.out.keep fe1 (fun g hg q=>HNE.out g hg q) (fun g q=>by omega) (fun g q=>.inl (HYS.out.1 g (by omega)))
       have P2:PgSt ((w9.setCell ⟨G,i,none⟩ (.int .i64 nn)).setCell ⟨E,1,none⟩ (.string ⟨#[]⟩)) N 2 tx none 0 0 ea i ec [] (esC t s i):=P9.out.keep fe1 (by omega) (fun g q=>by simp[Value.ownBlock] at q) (fun g q q'=>by have:=HEE.out g q;omega)
       have kE3:(((w9.setCell ⟨G,i,none⟩ (.int .i64 nn)).setCell ⟨E,1,none⟩ (.string ⟨#[]⟩)).setCell ⟨E,2,none⟩ (.int .i64 nn)).heap[E]?=some (.cells #[.string k,.string ⟨#[]⟩,.int .i64 nn,.int .i64 (v.size:Int)] 98):=by simpa using heap_setT kE2 2 (.int .i64 nn)
       have fe2:=fr_setT ((w9.setCell ⟨G,i,none⟩ (.int .i64 nn)).setCell ⟨E,1,none⟩ (.string ⟨#[]⟩)) E 2 (.int .i64 nn)
       have HL3:Hid (LfSt Ys w (((w9.setCell ⟨G,i,none⟩ (.int .i64 nn)).setCell ⟨E,1,none⟩ (.string ⟨#[]⟩)).setCell ⟨E,2,none⟩ (.int .i64 nn)) N P U (.slice pa a pc) (.slice na b nc) #[.bool true,.int .i64 0,.slice (some ⟨kb,ko,none⟩) on kc,.slice (some ⟨vb,vo,none⟩) on vc,.slice oa on oc,.slice (some ⟨N+3,0,none⟩) 0 0] (.slice (some ⟨G,0,none⟩) on xc) on ((overP ((t.vals.zip t.over).take (i+1)) s).1++t.over.drop (i+1)) pa2 (A+J) pc2 na2 (Bn+J) nc2 tx (overP ((t.vals.zip t.over).take (i+1)) s).2):=L2.keep fe2 (fun g hg q=>HNE.out g hg q) (fun g q=>by omega) (fun g q=>.inl (HYS.out.1 g (by omega)))
       have HP3:Hid (PgSt (((w9.setCell ⟨G,i,none⟩ (.int .i64 nn)).setCell ⟨E,1,none⟩ (.string ⟨#[]⟩)).setCell ⟨E,2,none⟩ (.int .i64 nn)) N 2 tx none 0 0 ea i ec [] (esC t s i)):=P2.keep fe2 (by omega) (fun g q=>by simp[Value.ownBlock] at q) (fun g q q'=>by have:=HEE.out g q;omega)
       obtain⟨x0,x1,x2,x3⟩:=box4P kEX
       have fE:=thawT kEX
       have lE9:E<(w9.setCell ⟨G,i,none⟩ (.int .i64 nn)).heap.size:=(Array.getElem?_eq_some_iff.1 kEX).1
       obtain⟨t0,t1,t2,t3⟩:=box4P kE2
       have fE2:=thawT kE2
       have cG2:((w9.setCell ⟨G,i,none⟩ (.int .i64 nn)).setCell ⟨E,1,none⟩ (.string ⟨#[]⟩)).cell? ⟨G,i,none⟩=some (.int .i64 nn):=HOJ.out _ L2.over
       have lG2:G<((w9.setCell ⟨G,i,none⟩ (.int .i64 nn)).setCell ⟨E,1,none⟩ (.string ⟨#[]⟩)).heap.size:=(L2.over.lt G rfl).2
       go_wp2_with fail
       go_meet
       exact⟨pa2,A+J,pc2,na2,Bn+J,nc2,_,_,HL3,HP3,kE3,by omega,by omega,HES,HAL2⟩
      ·have hx1:(x == 0)=false:=by simpa using hx0
       have HS1:Hid (overP ((t.vals.zip t.over).take (i+1)) s=((overP ((t.vals.zip t.over).take i) s).1++[x],(overP ((t.vals.zip t.over).take i) s).2)):=by show _=_;rw[HSO.out,if_neg (fun h=>hx0 h.2),if_neg (fun h=>hx0 h.2)]
       have HAL2:Hid (A=(overP ((t.vals.zip t.over).take (i+1)) s).2.log.length∧Bn=(overP ((t.vals.zip t.over).take (i+1)) s).2.log.length):=by
        show _∧_
        rw[HS1.out]
        exact HAL.out
       have HES:Hid (esC t s (i+1)=esC t s i++[(k,⟨#[]⟩,x,(v.size:Int))]):=by
        show _=_
        rw[es_next HLN.out hlt HKV.out HS1.out]
        unfold entC
        rw[if_pos hlg]
        rfl
       have LX:Hid (LfSt Ys w Y N P U (.slice pa a pc) (.slice na b nc) #[.bool true,.int .i64 0,.slice (some ⟨kb,ko,none⟩) on kc,.slice (some ⟨vb,vo,none⟩) on vc,.slice oa on oc,.slice (some ⟨N+3,0,none⟩) 0 0] (.slice (some ⟨G,0,none⟩) on xc) on ((overP ((t.vals.zip t.over).take (i+1)) s).1++t.over.drop (i+1)) pa1 A pc1 na1 Bn nc1 tx (overP ((t.vals.zip t.over).take (i+1)) s).2):=by
        have:=HLY.out
        show LfSt _ _ _ _ _ _ _ _ _ _ _ _ _ _ _ _ _ _ _ _
        rw[HS1.out]
        rw[show (overP ((t.vals.zip t.over).take i) s).1++t.over.drop i=((overP ((t.vals.zip t.over).take i) s).1++[x])++t.over.drop (i+1) from over_nextI HXO.out (by have:=HLN.out;omega)] at this
        exact this
       have P9:=HPY
       have hGE:G<E:=HZE.out G (.inr (.inr (.inl rfl)))
       have HNE:Hid (∀ g,LB N P U (.slice pa1 A pc1) (.slice na1 Bn nc1) (.slice (some ⟨G,0,none⟩) on xc) g->g≠E):=fun g q e=>by have:=HZE.out g q;omega
       have HOJ:Hid (∀ V:World,V.ownsRow (N+4) 2 1 (.slice (some ⟨G,0,none⟩) on xc) on (rowsOf intCells ((overP ((t.vals.zip t.over).take (i+1)) s).1++t.over.drop (i+1)))->V.cell? ⟨G,i,none⟩=some (.int .i64 x)):=fun V hV=>by
        have h9:=hV.cellAt i (by omega)
        have hl9:(overP ((t.vals.zip t.over).take i) s).1.length=i:=by rw[overP_len];simp;have:=HLN.out;omega
        rw[HS1.out] at h9
        rw[h9,ints_getP _ i (by simp[hl9])]
        simp[List.getD,List.getElem?_append_left,List.getElem?_append_right,hl9]
       have cG:=HOI.out Y HLY.out.over
       have lG:=(HLY.out.over.lt G rfl).2
       have kE2:(Y.setCell ⟨E,1,none⟩ (.string ⟨#[]⟩)).heap[E]?=some (.cells #[.string k,.string ⟨#[]⟩,.int .i64 0,.int .i64 (v.size:Int)] 98):=by simpa using heap_setT kY 1 (.string ⟨#[]⟩)
       have fe1:=fr_setT Y E 1 (.string ⟨#[]⟩)
       have L2:=LX.out.keep fe1 (fun g hg q=>HNE.out g hg q) (fun g q=>by omega) (fun g q=>.inl (HYS.out.1 g (by omega)))
       have P2:PgSt (Y.setCell ⟨E,1,none⟩ (.string ⟨#[]⟩)) N 2 tx none 0 0 ea i ec [] (esC t s i):=P9.out.keep fe1 (by omega) (fun g q=>by simp[Value.ownBlock] at q) (fun g q q'=>by have:=HEE.out g q;omega)
       have kE3:((Y.setCell ⟨E,1,none⟩ (.string ⟨#[]⟩)).setCell ⟨E,2,none⟩ (.int .i64 x)).heap[E]?=some (.cells #[.string k,.string ⟨#[]⟩,.int .i64 x,.int .i64 (v.size:Int)] 98):=by simpa using heap_setT kE2 2 (.int .i64 x)
       have fe2:=fr_setT (Y.setCell ⟨E,1,none⟩ (.string ⟨#[]⟩)) E 2 (.int .i64 x)
       have HL3:Hid (LfSt Ys w ((Y.setCell ⟨E,1,none⟩ (.string ⟨#[]⟩)).setCell ⟨E,2,none⟩ (.int .i64 x)) N P U (.slice pa a pc) (.slice na b nc) #[.bool true,.int .i64 0,.slice (some ⟨kb,ko,none⟩) on kc,.slice (some ⟨vb,vo,none⟩) on vc,.slice oa on oc,.slice (some ⟨N+3,0,none⟩) 0 0] (.slice (some ⟨G,0,none⟩) on xc) on ((overP ((t.vals.zip t.over).take (i+1)) s).1++t.over.drop (i+1)) pa1 A pc1 na1 Bn nc1 tx (overP ((t.vals.zip t.over).take (i+1)) s).2):=L2.keep fe2 (fun g hg q=>HNE.out g hg q) (fun g q=>by omega) (fun g q=>.inl (HYS.out.1 g (by omega)))
       have HP3:Hid (PgSt ((Y.setCell ⟨E,1,none⟩ (.string ⟨#[]⟩)).setCell ⟨E,2,none⟩ (.int .i64 x)) N 2 tx none 0 0 ea i ec [] (esC t s i)):=P2.keep fe2 (by omega) (fun g q=>by simp[Value.ownBlock] at q) (fun g q q'=>by have:=HEE.out g q;omega)
       obtain⟨x0,x1,x2,x3⟩:=box4P kY
       have fE:=thawT kY
       have lE9:E<Y.heap.size:=(Array.getElem?_eq_some_iff.1 kY).1
       obtain⟨t0,t1,t2,t3⟩:=box4P kE2
       have fE2:=thawT kE2
       have cG2:(Y.setCell ⟨E,1,none⟩ (.string ⟨#[]⟩)).cell? ⟨G,i,none⟩=some (.int .i64 x):=HOJ.out _ L2.over
       have lG2:G<(Y.setCell ⟨E,1,none⟩ (.string ⟨#[]⟩)).heap.size:=(L2.over.lt G rfl).2
       go_wp2_with fail
       go_meet
       exact⟨pa1,A,pc1,na1,Bn,nc1,_,_,HL3,HP3,kE3,by omega,by omega,HES,HAL2⟩
     ·have HS1:Hid (overP ((t.vals.zip t.over).take (i+1)) s=((overP ((t.vals.zip t.over).take i) s).1++[x],(overP ((t.vals.zip t.over).take i) s).2)):=by show _=_;rw[HSO.out,if_neg (fun h=>hlg h.1),if_neg (fun h=>hlg h.1)]
      have HAL2:Hid (A=(overP ((t.vals.zip t.over).take (i+1)) s).2.log.length∧Bn=(overP ((t.vals.zip t.over).take (i+1)) s).2.log.length):=by
       show _∧_
       rw[HS1.out]
       exact HAL.out
      have HES:Hid (esC t s (i+1)=esC t s i++[(k,v,0,(v.size:Int))]):=by
       show _=_
       rw[es_next HLN.out hlt HKV.out HS1.out]
       unfold entC
       rw[if_neg hlg]
      have LX:Hid (LfSt Ys w Y N P U (.slice pa a pc) (.slice na b nc) #[.bool true,.int .i64 0,.slice (some ⟨kb,ko,none⟩) on kc,.slice (some ⟨vb,vo,none⟩) on vc,.slice oa on oc,.slice (some ⟨N+3,0,none⟩) 0 0] (.slice (some ⟨G,0,none⟩) on xc) on ((overP ((t.vals.zip t.over).take (i+1)) s).1++t.over.drop (i+1)) pa1 A pc1 na1 Bn nc1 tx (overP ((t.vals.zip t.over).take (i+1)) s).2):=by
       have:=HLY.out
       show LfSt _ _ _ _ _ _ _ _ _ _ _ _ _ _ _ _ _ _ _ _
       rw[HS1.out]
       rw[show (overP ((t.vals.zip t.over).take i) s).1++t.over.drop i=((overP ((t.vals.zip t.over).take i) s).1++[x])++t.over.drop (i+1) from over_nextI HXO.out (by have:=HLN.out;omega)] at this
       exact this
      go_wp2_with fail
      go_meet
      exact⟨pa1,A,pc1,na1,Bn,nc1,v,0,LX,HPY,kY,by omega,by omega,HES,HAL2⟩
    case rest =>
     obtain⟨pa2,A2,pc2,na2,B2,nc2,v2,o2,HL,HP,kE,hA2,hB2,HES,HAL2⟩:=hcut
     clear HLY HPY kY bY sY lE y2 y3 yk yv ln lk lv hlong HZE HOI
     obtain⟨kp,po1,po2⟩:=HP.out
     obtain⟨e0,e1,e2,e3,e4,e5,e6,e7,e8⟩:=box9P kp
     obtain⟨x0,x1,x2,x3⟩:=box4P kE
     have lE:E<wc.heap.size:=(Array.getElem?_eq_some_iff.1 kE).1
     have lp:N+2<wc.heap.size:=(Array.getElem?_eq_some_iff.1 kp).1
     have hal:=(Below.refl wc.heap.size wc).alloc (Nat.le_refl _) (.cells #[.string k,.string v2,.int .i64 o2,.int .i64 (v.size:Int)] 98)
     have HLA:Hid (LfSt Ys w (wc.alloc (.cells #[.string k,.string v2,.int .i64 o2,.int .i64 (v.size:Int)] 98)) N P U (.slice pa a pc) (.slice na b nc) #[.bool true,.int .i64 0,.slice (some ⟨kb,ko,none⟩) on kc,.slice (some ⟨vb,vo,none⟩) on vc,.slice oa on oc,.slice (some ⟨N+3,0,none⟩) 0 0] (.slice (some ⟨G,0,none⟩) on xc) on ((overP ((t.vals.zip t.over).take (i+1)) s).1++t.over.drop (i+1)) pa2 A2 pc2 na2 B2 nc2 tx (overP ((t.vals.zip t.over).take (i+1)) s).2):=HL.out.below hal
     have HPA:Hid (PgSt (wc.alloc (.cells #[.string k,.string v2,.int .i64 o2,.int .i64 (v.size:Int)] 98)) N 2 tx none 0 0 ea i ec [] (esC t s i)):=HP.out.below hal
     have HOA:Hid ((wc.alloc (.cells #[.string k,.string v2,.int .i64 o2,.int .i64 (v.size:Int)] 98)).ownsRow (N+4) 98 4 (.slice ea i ec) i (rowsOf entCells (esC t s i))):=owns_below po2 hal
     have hsl:=HLA.out.sz
     clear po1 po2 hal kE
     have HAP:Hid (∀ (v8:Value) (w8:World),w8.ownsRow (N+4) 98 4 v8 (i+1) (rowsOf entCells (esC t s i)++[.string k,.string v2,.int .i64 o2,.int .i64 (v.size:Int)])->(wc.alloc (.cells #[.string k,.string v2,.int .i64 o2,.int .i64 (v.size:Int)] 98)).grownBy w8 (Value.slice ea i ec).ownBlock->∃ a8 c8,v8=.slice a8 (i+1) c8∧w8.heap[N+2]?=some (.cells #[.int .i64 2,.int .i64 tx,.int .i64 0,.int .i64 0,.int .i64 0,.slice none 0 0,.slice ea i ec,.int .i64 0,.string ⟨#[]⟩] 93)∧Hid (PgSt (w8.setCell ⟨N+2,6,none⟩ (.slice a8 (i+1) c8)) N 2 tx none 0 0 a8 (i+1) c8 [] (esC t s (i+1)))∧Hid (LfSt Ys w (w8.setCell ⟨N+2,6,none⟩ (.slice a8 (i+1) c8)) N P U (.slice pa a pc) (.slice na b nc) #[.bool true,.int .i64 0,.slice (some ⟨kb,ko,none⟩) on kc,.slice (some ⟨vb,vo,none⟩) on vc,.slice oa on oc,.slice (some ⟨N+3,0,none⟩) 0 0] (.slice (some ⟨G,0,none⟩) on xc) on ((overP ((t.vals.zip t.over).take (i+1)) s).1++t.over.drop (i+1)) pa2 A2 pc2 na2 B2 nc2 tx (overP ((t.vals.zip t.over).take (i+1)) s).2)):=fun v8 w8 h1 h2=>by
      obtain⟨a8,c8,rfl⟩:=own_shape h1
      refine⟨a8,c8,rfl,(h2.block (N+2) (by have:=(Array.getElem?_eq_some_iff.1 HPA.out.1).1;exact this) (fun e=>by have:=(HOA.out.lt _ e.symm).1;omega)).trans HPA.out.1,HPA.out.pushE (by rw[HES.out];simpa[rowsOf,entCells] using h1) h2,HLA.out.push HOA.out (by decide) (by decide) (by decide) (by decide) (by decide) h2 (fun g q=>.inl (HYS.out.1 g (by have:=(HOA.out.lt g q).1;omega))) (.inl (HYS.out.1 _ (by omega)))⟩
     go_wp2_with (at_builtin;refine wpList_append_ownD _ rfl _ _ 91 rfl (N+4) 98 ie _ 4 48 Tryz.underlying91 hie he0 he1 he2 rfl (by decide) (.slice ea i ec) i _ rfl HOA.out ⟨wc.heap.size,0,none⟩ 1 1 [.string k,.string v2,.int .i64 o2,.int .i64 (v.size:Int)] rfl rfl (cell_four_newP _ _ _ _ _ _) (by simp[Value.oneCell']) (by unfold maxLen;omega) (by omega) hsl ?_;intro v8 w8 h1 h2 h3;obtain⟨a8,c8,rfl,kp8,HP8,HL8⟩:=HAP.out v8 w8 h1 h2;obtain⟨z0,z1,z2,z3,z4,z5,z6,z7,z8⟩:=box9P kp8;have fz:=thawT kp8;have lz:=(Array.getElem?_eq_some_iff.1 kp8).1;clear h1 h2 h3)
     go_wp2_with fail
     go_roundg (on - (i+1))
     case measure=>omega
     case rel=>exact⟨i+1,pa2,A2,pc2,na2,B2,nc2,a8,c8,by omega,rfl,by go_num,HL8,HP8,by omega,by omega,HAL2⟩
   ·obtain rfl:i=on:=by omega
    have HTK:Hid ((t.vals.zip t.over).take i=t.vals.zip t.over∧t.over.drop i=[]):=by
     refine⟨List.take_of_length_le ?_,List.drop_eq_nil_of_le ?_⟩
     ·simp;have:=HLN.out;omega
     ·have:=HLN.out;omega
    obtain⟨ob,hob⟩:∃ ob,overP (t.vals.zip t.over) s=ob:=⟨_,rfl⟩
    have HOB:Hid (overP (t.vals.zip t.over) s=ob):=hob
    have HFT0:Hid (∀ x ∈ ob.1,I64 x):=by
     show ∀ x ∈ ob.1,_
     rw[<-hob]
     refine over_fit _ _ (fun z hz=>?_)
     exact rowsAt_fits (HZR.out wr HL.out.fr).nx.over z.2 (List.of_mem_zip hz).2
    have HL9:Hid (LfSt Xs w wr N P U (.slice pa a pc) (.slice na b nc) #[.bool true,.int .i64 0,.slice ka i kc,.slice va i vc,.slice oa i oc,.slice (some ⟨N+3,0,none⟩) 0 0] (.slice xa i xc) i ob.1 pa1 A pc1 na1 Bn nc1 tx ob.2):=by
     have:=HL.out
     rw[HTK.out.1,HTK.out.2,List.append_nil,hob] at this
     exact this.less (fun g q _=>HYS.out.2.1 g q)
    have HALB:Hid (A=ob.2.log.length∧Bn=ob.2.log.length):=by
     have:=HAL.out
     rw[HTK.out.1,hob] at this
     exact this
    obtain⟨es,hes⟩:∃ es,esC t s i=es:=⟨_,rfl⟩
    have HESA:Hid (es=(t.keys.zip (t.vals.zip ob.1)).map entC):=by
     show _=_
     rw[<-hes,es_all HLN.out,hob]
    rw[hes] at HP
    have hAA:A<=a+20:=by omega
    have hBB:Bn<=b+20:=by omega
    clear hob HL hA hB hes HAL
    have sW0:=HL9.out.sz
    obtain⟨q0,q1,q2,q3,q4,q5⟩:=box6g HL9.out.k0
    have fN:=thawT HL9.out.k0
    have lN:=(HL9.out.lb (.inl rfl)).1
    have HZ9:Hid (∀ g,ZP P U (.slice pa1 A pc1) (.slice na1 Bn nc1) g->g<wr.heap.size):=fun g e=>HL9.out.pat.lt e
    have HL1:Hid (LfSt Xs w (wr.setCell ⟨N,4,none⟩ (.slice xa i xc)) N P U (.slice pa a pc) (.slice na b nc) #[.bool true,.int .i64 0,.slice ka i kc,.slice va i vc,.slice xa i xc,.slice (some ⟨N+3,0,none⟩) 0 0] (.slice xa i xc) i ob.1 pa1 A pc1 na1 Bn nc1 tx ob.2):=HL9.out.box 4 (.slice xa i xc)
    have HP1:Hid (PgSt (wr.setCell ⟨N,4,none⟩ (.slice xa i xc)) N 2 tx none 0 0 ea i ec [] es):=HP.out.st HL9.out.k0 (by decide) (by decide) (by omega) _
    have HF1:Hid (Fr (fun g=>g=N∨g=N+1∨g=N+2∨ZP P U (.slice pa1 A pc1) (.slice na1 Bn nc1) g) wr (wr.setCell ⟨N,4,none⟩ (.slice xa i xc))):=(fr_setT wr N 4 (.slice xa i xc)).weak (fun g e=>.inl e)
    clear HP
    go_upto_region 27 with fail
    generalize wr.setCell ⟨N,4,none⟩ (.slice xa i xc)=W1 at HL1 HP1 HF1 ⊢
    clear q0 q1 q2 q3 q4 q5 fN lN
    obtain⟨q0,q1,q2,q3,q4,q5⟩:=box6g HL1.out.k0
    have lN:=(HL1.out.lb (.inl rfl)).1
    obtain⟨e0,e1,e2,e3,e4,e5,e6,e7,e8⟩:=box9P HP1.out.1
    have fp:=thawT HP1.out.1
    have lp:=(Array.getElem?_eq_some_iff.1 HP1.out.1).1
    have HP2:Hid (PgSt (W1.setCell ⟨N+2,0,none⟩ (.int .i64 3)) N 3 tx none 0 0 ea i ec [] es):=HP1.out.kind 3
    have HL2:Hid (LfSt Xs w (W1.setCell ⟨N+2,0,none⟩ (.int .i64 3)) N P U (.slice pa a pc) (.slice na b nc) #[.bool true,.int .i64 0,.slice ka i kc,.slice va i vc,.slice xa i xc,.slice (some ⟨N+3,0,none⟩) 0 0] (.slice xa i xc) i ob.1 pa1 A pc1 na1 Bn nc1 tx ob.2):=HL1.out.keep (fr_setT W1 (N+2) 0 (.int .i64 3)) (fun g hg q=>by have:=(HL1.out.lb hg).2;omega) (fun g q=>by omega) (fun g q=>.inr (q ▸ nk_blk HP1.out.1 (by decide) (by decide)))
    have HF2:Hid (Fr (fun g=>g=N∨g=N+1∨g=N+2∨ZP P U (.slice pa1 A pc1) (.slice na1 Bn nc1) g) wr (W1.setCell ⟨N+2,0,none⟩ (.int .i64 3))):=HF1.out.trans ((fr_setT W1 (N+2) 0 (.int .i64 3)).weak (fun g e=>.inr (.inr (.inl e))))
    go_upto_region 29 with fail
    generalize W1.setCell ⟨N+2,0,none⟩ (.int .i64 3)=W2 at HL2 HP2 HF2 ⊢
    clear e0 e1 e2 e3 e4 e5 e6 e7 e8 fp lp q0 q1 q2 q3 q4 q5 lN HL1 HP1 HF1
    have hnx:=l4Next_any Xs P U A Bn _ _ tx ob.2 W2 HL2.out.pat
    obtain⟨y,hy⟩:∃ y,(nxtP ob.2).1=y:=⟨_,rfl⟩
    obtain⟨s1,hs2⟩:∃ s1,(nxtP ob.2).2=s1:=⟨_,rfl⟩
    obtain⟨pc9,hpc9⟩:∃ pc9,PgC.leaf es=pc9:=⟨_,rfl⟩
    have HPC9:Hid (PgC.leaf es=pc9):=hpc9
    obtain⟨s2,hs3⟩:∃ s2:PSt,{ s1 with log:=s1.log++[(y,pc9)] }=s2:=⟨_,rfl⟩
    have HNX:Hid ((nxtP ob.2).1=y∧{ (nxtP ob.2).2 with log:=(nxtP ob.2).2.log++[(y,pc9)] }=s2∧s2.log=ob.2.log++[(y,pc9)]):=⟨hy,by rw[hs2];exact hs3,by rw[<-hs3];show s1.log++_=_;rw[<-hs2,nxt_log]⟩
    have HS3:Hid ({ s1 with log:=s1.log++[(y,pc9)] }=s2):=hs3
    have hyr:0<=y∧y<=1000:=by rw[<-hy];exact nxt_range _
    obtain⟨hy0,hy1⟩:=hyr
    rw[hy,hs2] at hnx
    clear hy hs2 hs3 hpc9
    go_upto_region 30 with (go_at_call 46;refine hnx.mono ?_;rintro e w9 ⟨rfl,hp9,hf9⟩;have hL9:=HL2.out.step hp9 (hf9.weak (fun g e=>e.elim .inl (fun e=>.inr (.inl e)))) (fun g e=>.inl e);have HL9':Hid (LfSt Xs w w9 N P U (.slice pa a pc) (.slice na b nc) #[.bool true,.int .i64 0,.slice ka i kc,.slice va i vc,.slice xa i xc,.slice (some ⟨N+3,0,none⟩) 0 0] (.slice xa i xc) i ob.1 pa1 A pc1 na1 Bn nc1 tx s2):=HS3.out ▸ hL9.log _;have HP9:Hid (PgSt w9 N 3 tx none 0 0 ea i ec [] es):=HP2.out.zp HL2.out (hf9.weak (fun g e=>e.elim .inl (fun e=>.inr (.inl e))));have HF9:Hid (Fr (fun g=>g=N∨g=N+1∨g=N+2∨ZP P U (.slice pa1 A pc1) (.slice na1 Bn nc1) g) wr w9):=HF2.out.trans (hf9.weak (fun g e=>.inr (.inr (.inr (e.elim .inl (fun e=>.inr (.inl e)))))));obtain⟨q0,q1,q2,q3,q4,q5⟩:=box6g hL9.k0;have fN:=thawT hL9.k0;have lN:=(hL9.lb (.inl rfl)).1;clear hp9 hf9 hL9)
    have HL3:Hid (LfSt Xs w (w9.setCell ⟨N,1,none⟩ (.int .i64 y)) N P U (.slice pa a pc) (.slice na b nc) #[.bool true,.int .i64 y,.slice ka i kc,.slice va i vc,.slice xa i xc,.slice (some ⟨N+3,0,none⟩) 0 0] (.slice xa i xc) i ob.1 pa1 A pc1 na1 Bn nc1 tx s2):=HL9'.out.box 1 (.int .i64 y)
    have HP3:Hid (PgSt (w9.setCell ⟨N,1,none⟩ (.int .i64 y)) N 3 tx none 0 0 ea i ec [] es):=HP9.out.st HL9'.out.k0 (by decide) (by decide) (by omega) _
    have HF3:Hid (Fr (fun g=>g=N∨g=N+1∨g=N+2∨ZP P U (.slice pa1 A pc1) (.slice na1 Bn nc1) g) wr (w9.setCell ⟨N,1,none⟩ (.int .i64 y))):=HF9.out.trans ((fr_setT w9 N 1 (.int .i64 y)).weak (fun g e=>.inl e))
    generalize w9.setCell ⟨N,1,none⟩ (.int .i64 y)=W at HL3 HP3 HF3 ⊢
    clear q0 q1 q2 q3 q4 q5 fN lN HL2 HP2 HF2 HL9' HP9 HF9 hnx
    have HPW:Hid (PAt Xs W P U (.slice pa1 A pc1) A (.slice na1 Bn nc1) Bn tx s2):=HL3.out.pat
    have kK:W.heap[N+2]?=some (.cells #[.int .i64 3,.int .i64 tx,.int .i64 0,.int .i64 0,.int .i64 0,.slice none 0 0,.slice ea i ec,.int .i64 0,.string ⟨#[]⟩] 93):=HP3.out.1
    have lKW:N+2<W.heap.size:=(Array.getElem?_eq_some_iff.1 kK).1
    obtain⟨pm9,hpm9⟩:∃ pm9,pm9=y:=⟨_,rfl⟩
    have HNW:Hid (s2.log[A]?=some (pm9,pc9)∧PgIs Xs W tx [.int .i64 3,.int .i64 tx,.int .i64 0,.int .i64 0,.int .i64 0,.slice none 0 0,.slice ea i ec,.int .i64 0,.string ⟨#[]⟩] pc9):=⟨by rw[HNX.out.2.2,HALB.out.1,hpm9];simp,by rw[<-HPC9.out];exact PgSt.is (c:=PgC.leaf es) HP3.out rfl rfl HYS.out.2.2⟩
    clear hpm9
    go_cut [] (fun wx=>∃ (pa2:Option Addr) (pc2:Nat),Hid (PAt Xs wx P U (.slice pa2 (A+1) pc2) (A+1) (.slice na1 Bn nc1) Bn tx s2∧Fr (fun g=>g=P∨(Value.slice pa1 A pc1).ownBlock=some g) W wx∧∀ g,(Value.slice pa2 (A+1) pc2).ownBlock=some g->(Value.slice pa1 A pc1).ownBlock=some g∨W.heap.size<=g))
    case first =>
      have bV0:=(Below.refl W.heap.size W).drew
      refine wp_region_noPanic ?_
      refine wp_region_held_drew (S:=(fun _:World=>True)) (by kernel_rfl) (trivial) (fun hHeld=>?_)
      clear hHeld
      generalize W.drew=V at bV0 ⊢
      have hHeld:=trivial
      have HPV:Hid (PAt Xs V P U (.slice pa1 A pc1) A (.slice na1 Bn nc1) Bn tx s2):=HPW.out.below bV0
      have HFV:Hid (Fr (fun g=>g=P∨(Value.slice pa1 A pc1).ownBlock=some g) W V):=Fr.of_below bV0
      obtain⟨css,hrV,hcl,hct⟩:=HPV.out.pgs
      have HCS:Hid (css.length=A∧∀ (i:Nat) cs,css[i]?=some cs->∃ n c,s2.log[i]?=some (n,c)∧PgIs Xs V tx cs c):=⟨hcl,hct⟩
      have HNC:Hid (PgIs Xs V tx [.int .i64 3,.int .i64 tx,.int .i64 0,.int .i64 0,.int .i64 0,.slice none 0 0,.slice ea i ec,.int .i64 0,.string ⟨#[]⟩] pc9):=HNW.out.2.below bV0
      have HNM:Hid (s2.log[A]?=some (pm9,pc9)):=HNW.out.1
      clear hcl hct
      have HRP:Hid (V.ownsRow 0 93 9 (.slice pa1 A pc1) A css.flatten):=hrV
      clear hrV
      obtain⟨q0,q1,q2,q3,q4⟩:=box5P HPV.out.box
      have lP:P<V.heap.size:=HPV.out.lt (.inl rfl)
      have kV:V.heap[N+2]?=some (.cells #[.int .i64 3,.int .i64 tx,.int .i64 0,.int .i64 0,.int .i64 0,.slice none 0 0,.slice ea i ec,.int .i64 0,.string ⟨#[]⟩] 93):=(bV0.block (N+2) lKW).trans kK
      obtain⟨e0,e1,e2,e3,e4,e5,e6,e7,e8⟩:=box9P kV
      have lKV:N+2<V.heap.size:=(Array.getElem?_eq_some_iff.1 kV).1
      clear bV0
      refine tY 0 (.pointer (some ⟨P,0,none⟩)) .z (by kernel_rfl) (by rfl) ?_ ‹_› ?_
      ·intro wq hSw;go_simp
      refine tY 1 (.pointer (some ⟨P,0,none⟩)) (.s .z) (by kernel_rfl) (by rfl) ?_ ‹_› ?_
      ·intro wq hSw;go_simp
      refine tY 2 (.pointer (some ⟨P,0,none⟩)) (.s (.s .z)) (by kernel_rfl) (by rfl) ?_ ‹_› ?_
      ·intro wq hSw;go_simp
      refine tY 3 (.pointer (some ⟨P,2,none⟩)) (.s (.s (.s .z))) (by kernel_rfl) (by rfl) ?_ ‹_› ?_
      ·intro wq hSw;go_simp
      try simp only[Act.put,q1,q2,q3]
      refine wpAnyH_ready (rs:=[4,5]) (by kernel_rfl) (by simp) ?_
      refine rdA (.s (.s (.s (.s .z)))) (fun K hK=>?_) ?_
      rotate_left 1
      refine rdA (.f .z) (fun K hK=>?_) ?_
      rotate_left 1
      exact AllReadyH.nil
      ·go_simp
       refine hK.out _ _ (trivial) (fun hHeld=>?_)
       clear hK K
       try simp only[Act.put,q1,q2,q3]
       refine wpAnyH_ready (rs:=[5]) (by kernel_rfl) (by simp) ?_
       refine rdA (.f .z) (fun K hK=>?_) AllReadyH.nil
       go_simp
       refine hK.out _ _ (trivial) (fun hHeld=>?_)
       clear hK K
       try simp only[Act.put,q1,q2,q3]
       refine wpAnyH_ready (rs:=[6]) (by kernel_rfl) (by simp) ?_
       refine rdA (.f (.s .z)) (fun K hK=>?_) AllReadyH.nil
       go_simp
       have hal2:=(Below.refl V.heap.size V).alloc (Nat.le_refl _) (.cells #[.int .i64 3,.int .i64 tx,.int .i64 0,.int .i64 0,.int .i64 0,.slice none 0 0,.slice ea i ec,.int .i64 0,.string ⟨#[]⟩] 93)
       have HPA:Hid (PAt Xs (V.alloc (.cells #[.int .i64 3,.int .i64 tx,.int .i64 0,.int .i64 0,.int .i64 0,.slice none 0 0,.slice ea i ec,.int .i64 0,.string ⟨#[]⟩] 93)) P U (.slice pa1 A pc1) A (.slice na1 Bn nc1) Bn tx s2):=HPV.out.below hal2
       obtain⟨z0,z1,z2,z3,z4⟩:=box5P HPA.out.box
       have lPA:P<(V.alloc (.cells #[.int .i64 3,.int .i64 tx,.int .i64 0,.int .i64 0,.int .i64 0,.slice none 0 0,.slice ea i ec,.int .i64 0,.string ⟨#[]⟩] 93)).heap.size:=HPA.out.lt (.inl rfl)
       refine hK.out _ _ (trivial) (fun hHeld=>?_)
       clear hK K
       try simp only[Act.put,q1,q2,q3]
       refine wpAnyH_ready (rs:=[7]) (by kernel_rfl) (by simp) ?_
       refine rdA (.f (.s (.s .z))) (fun K hK=>?_) AllReadyH.nil
       have hrow:=owns_below HRP.out hal2
       refine step_append_T rfl _ _ 30 rfl 0 93 ip _ 9 112 Tryz.underlying30 hip hp0 hp1 hp2 rfl (by decide) (.slice pa1 A pc1) A css.flatten (by simp[Act.eval]) hrow ⟨V.heap.size,0,none⟩ 1 1 [.int .i64 3,.int .i64 tx,.int .i64 0,.int .i64 0,.int .i64 0,.slice none 0 0,.slice ea i ec,.int .i64 0,.string ⟨#[]⟩] (by simp[Act.eval]) rfl (cell_nine_newP _ _ _ _ _ _ _ _ _ _ _) (by simp[Value.oneCell']) (by unfold maxLen;omega) (by omega) (Nat.zero_le _) ?_
       intro u7 w7 hown7 hgr7 hlies7
       obtain⟨g7,c7',rfl⟩:=own_shape hown7
       have hb7:w7.heap[P]?=_:=(hgr7.block P lPA (fun e=>HPA.out.apart.1 e.symm)).trans HPA.out.box
       obtain⟨t0,t1,t2,t3,t4⟩:=box5P hb7
       have f7:=thawT hb7
       have l7:P<w7.heap.size:=(Array.getElem?_eq_some_iff.1 hb7).1
       have HM:Hid (PAt Xs (w7.setCell ⟨P,2,none⟩ (.slice g7 (A+1) c7')) P U (.slice g7 (A+1) c7') (A+1) (.slice na1 Bn nc1) Bn tx s2∧Fr (fun g=>g=P∨(Value.slice pa1 A pc1).ownBlock=some g) W (w7.setCell ⟨P,2,none⟩ (.slice g7 (A+1) c7'))∧∀ g,(Value.slice g7 (A+1) c7').ownBlock=some g->(Value.slice pa1 A pc1).ownBlock=some g∨W.heap.size<=g):=by
        refine⟨HPA.out.pushP (n:=0) HCS.out.1 (pgs_fr (S:=fun _=>False) HCS.out.2 (Fr.of_below hal2) (fun _ e=>e.elim)) HNM.out (HNC.out.below hal2) hown7 hgr7,(HFV.out.trans ((Fr.of_below hal2).trans (Fr.of_grown hgr7 (fun g e=>.inr e)))).trans ((fr_setT w7 P 2 _).weak (fun g e=>.inl e)),fun g e=>?_⟩
        rcases hlies7 with h9 | h9
        ·rw[h9] at e;exact .inl e
        ·exact .inr (Nat.le_trans HFV.out.size (Nat.le_trans hal2.size (h9 g e)))
       clear hown7 hgr7 hlies7 hb7 hrow HPA hal2 z0 z1 z2 z3 z4 lPA
       refine hK.out _ _ (trivial) (fun hHeld=>?_)
       clear hK K
       refine tY 8 (.pointer (some ⟨P,0,none⟩)) (.f (.s (.s (.s .z)))) (by kernel_rfl) (by rfl) ?_ ‹_› ?_
       ·intro wq hSw;go_simp
       refine tY 9 (.pointer (some ⟨P,2,none⟩)) (.f (.s (.s (.s (.s .z))))) (by kernel_rfl) (by rfl) ?_ ‹_› ?_
       ·intro wq hSw;go_simp
       try simp only[Act.put,q1,q2,q3]
       refine wpAnyH_ready (rs:=[10]) (by kernel_rfl) (by simp) ?_
       refine rdA (.t .z) (fun K hK=>?_) AllReadyH.nil
       go_simp
       refine hK.out _ _ (trivial) (fun hHeld=>?_)
       clear hK K
       try simp only[Act.put,q1,q2,q3]
       refine wpAnyH_done (by kernel_rfl) ?_ _
       refine NoPanic.normal ?_
       clear hHeld t0 t1 t2 t3 t4 f7 l7
       go_wp2_with fail
       go_meet
       exact⟨g7,c7',HM⟩
      ·go_simp
       refine hK.out _ _ (trivial) (fun hHeld=>?_)
       clear hK K
       try simp only[Act.put,q1,q2,q3]
       refine wpAnyH_ready (rs:=[4,6]) (by kernel_rfl) (by simp) ?_
       refine rdA (.s (.s (.s (.s .z)))) (fun K hK=>?_) ?_
       rotate_left 1
       refine rdA (.f (.s .z)) (fun K hK=>?_) ?_
       rotate_left 1
       exact AllReadyH.nil
       ·go_simp
        refine hK.out _ _ (trivial) (fun hHeld=>?_)
        clear hK K
        try simp only[Act.put,q1,q2,q3]
        refine wpAnyH_ready (rs:=[6]) (by kernel_rfl) (by simp) ?_
        refine rdA (.f (.s .z)) (fun K hK=>?_) AllReadyH.nil
        go_simp
        have hal2:=(Below.refl V.heap.size V).alloc (Nat.le_refl _) (.cells #[.int .i64 3,.int .i64 tx,.int .i64 0,.int .i64 0,.int .i64 0,.slice none 0 0,.slice ea i ec,.int .i64 0,.string ⟨#[]⟩] 93)
        have HPA:Hid (PAt Xs (V.alloc (.cells #[.int .i64 3,.int .i64 tx,.int .i64 0,.int .i64 0,.int .i64 0,.slice none 0 0,.slice ea i ec,.int .i64 0,.string ⟨#[]⟩] 93)) P U (.slice pa1 A pc1) A (.slice na1 Bn nc1) Bn tx s2):=HPV.out.below hal2
        obtain⟨z0,z1,z2,z3,z4⟩:=box5P HPA.out.box
        have lPA:P<(V.alloc (.cells #[.int .i64 3,.int .i64 tx,.int .i64 0,.int .i64 0,.int .i64 0,.slice none 0 0,.slice ea i ec,.int .i64 0,.string ⟨#[]⟩] 93)).heap.size:=HPA.out.lt (.inl rfl)
        refine hK.out _ _ (trivial) (fun hHeld=>?_)
        clear hK K
        try simp only[Act.put,q1,q2,q3]
        refine wpAnyH_ready (rs:=[7]) (by kernel_rfl) (by simp) ?_
        refine rdA (.f (.s (.s .z))) (fun K hK=>?_) AllReadyH.nil
        have hrow:=owns_below HRP.out hal2
        refine step_append_T rfl _ _ 30 rfl 0 93 ip _ 9 112 Tryz.underlying30 hip hp0 hp1 hp2 rfl (by decide) (.slice pa1 A pc1) A css.flatten (by simp[Act.eval]) hrow ⟨V.heap.size,0,none⟩ 1 1 [.int .i64 3,.int .i64 tx,.int .i64 0,.int .i64 0,.int .i64 0,.slice none 0 0,.slice ea i ec,.int .i64 0,.string ⟨#[]⟩] (by simp[Act.eval]) rfl (cell_nine_newP _ _ _ _ _ _ _ _ _ _ _) (by simp[Value.oneCell']) (by unfold maxLen;omega) (by omega) (Nat.zero_le _) ?_
        intro u7 w7 hown7 hgr7 hlies7
        obtain⟨g7,c7',rfl⟩:=own_shape hown7
        have hb7:w7.heap[P]?=_:=(hgr7.block P lPA (fun e=>HPA.out.apart.1 e.symm)).trans HPA.out.box
        obtain⟨t0,t1,t2,t3,t4⟩:=box5P hb7
        have f7:=thawT hb7
        have l7:P<w7.heap.size:=(Array.getElem?_eq_some_iff.1 hb7).1
        have HM:Hid (PAt Xs (w7.setCell ⟨P,2,none⟩ (.slice g7 (A+1) c7')) P U (.slice g7 (A+1) c7') (A+1) (.slice na1 Bn nc1) Bn tx s2∧Fr (fun g=>g=P∨(Value.slice pa1 A pc1).ownBlock=some g) W (w7.setCell ⟨P,2,none⟩ (.slice g7 (A+1) c7'))∧∀ g,(Value.slice g7 (A+1) c7').ownBlock=some g->(Value.slice pa1 A pc1).ownBlock=some g∨W.heap.size<=g):=by
         refine⟨HPA.out.pushP (n:=0) HCS.out.1 (pgs_fr (S:=fun _=>False) HCS.out.2 (Fr.of_below hal2) (fun _ e=>e.elim)) HNM.out (HNC.out.below hal2) hown7 hgr7,(HFV.out.trans ((Fr.of_below hal2).trans (Fr.of_grown hgr7 (fun g e=>.inr e)))).trans ((fr_setT w7 P 2 _).weak (fun g e=>.inl e)),fun g e=>?_⟩
         rcases hlies7 with h9 | h9
         ·rw[h9] at e;exact .inl e
         ·exact .inr (Nat.le_trans HFV.out.size (Nat.le_trans hal2.size (h9 g e)))
        clear hown7 hgr7 hlies7 hb7 hrow HPA hal2 z0 z1 z2 z3 z4 lPA
        refine hK.out _ _ (trivial) (fun hHeld=>?_)
        clear hK K
        refine tY 8 (.pointer (some ⟨P,0,none⟩)) (.f (.s (.s (.s .z)))) (by kernel_rfl) (by rfl) ?_ ‹_› ?_
        ·intro wq hSw;go_simp
        refine tY 9 (.pointer (some ⟨P,2,none⟩)) (.f (.s (.s (.s (.s .z))))) (by kernel_rfl) (by rfl) ?_ ‹_› ?_
        ·intro wq hSw;go_simp
        try simp only[Act.put,q1,q2,q3]
        refine wpAnyH_ready (rs:=[10]) (by kernel_rfl) (by simp) ?_
        refine rdA (.t .z) (fun K hK=>?_) AllReadyH.nil
        go_simp
        refine hK.out _ _ (trivial) (fun hHeld=>?_)
        clear hK K
        try simp only[Act.put,q1,q2,q3]
        refine wpAnyH_done (by kernel_rfl) ?_ _
        refine NoPanic.normal ?_
        clear hHeld t0 t1 t2 t3 t4 f7 l7
        go_wp2_with fail
        go_meet
        exact⟨g7,c7',HM⟩
       ·go_simp
        have hal2:=(Below.refl V.heap.size V).alloc (Nat.le_refl _) (.cells #[.int .i64 3,.int .i64 tx,.int .i64 0,.int .i64 0,.int .i64 0,.slice none 0 0,.slice ea i ec,.int .i64 0,.string ⟨#[]⟩] 93)
        have HPA:Hid (PAt Xs (V.alloc (.cells #[.int .i64 3,.int .i64 tx,.int .i64 0,.int .i64 0,.int .i64 0,.slice none 0 0,.slice ea i ec,.int .i64 0,.string ⟨#[]⟩] 93)) P U (.slice pa1 A pc1) A (.slice na1 Bn nc1) Bn tx s2):=HPV.out.below hal2
        obtain⟨z0,z1,z2,z3,z4⟩:=box5P HPA.out.box
        have lPA:P<(V.alloc (.cells #[.int .i64 3,.int .i64 tx,.int .i64 0,.int .i64 0,.int .i64 0,.slice none 0 0,.slice ea i ec,.int .i64 0,.string ⟨#[]⟩] 93)).heap.size:=HPA.out.lt (.inl rfl)
        refine hK.out _ _ (trivial) (fun hHeld=>?_)
        clear hK K
        try simp only[Act.put,q1,q2,q3]
        refine wpAnyH_ready (rs:=[4]) (by kernel_rfl) (by simp) ?_
        refine rdA (.s (.s (.s (.s .z)))) (fun K hK=>?_) AllReadyH.nil
        go_simp
        refine hK.out _ _ (trivial) (fun hHeld=>?_)
        clear hK K
        try simp only[Act.put,q1,q2,q3]
        refine wpAnyH_ready (rs:=[7]) (by kernel_rfl) (by simp) ?_
        refine rdA (.f (.s (.s .z))) (fun K hK=>?_) AllReadyH.nil
        have hrow:=owns_below HRP.out hal2
        refine step_append_T rfl _ _ 30 rfl 0 93 ip _ 9 112 Tryz.underlying30 hip hp0 hp1 hp2 rfl (by decide) (.slice pa1 A pc1) A css.flatten (by simp[Act.eval]) hrow ⟨V.heap.size,0,none⟩ 1 1 [.int .i64 3,.int .i64 tx,.int .i64 0,.int .i64 0,.int .i64 0,.slice none 0 0,.slice ea i ec,.int .i64 0,.string ⟨#[]⟩] (by simp[Act.eval]) rfl (cell_nine_newP _ _ _ _ _ _ _ _ _ _ _) (by simp[Value.oneCell']) (by unfold maxLen;omega) (by omega) (Nat.zero_le _) ?_
        intro u7 w7 hown7 hgr7 hlies7
        obtain⟨g7,c7',rfl⟩:=own_shape hown7
        have hb7:w7.heap[P]?=_:=(hgr7.block P lPA (fun e=>HPA.out.apart.1 e.symm)).trans HPA.out.box
        obtain⟨t0,t1,t2,t3,t4⟩:=box5P hb7
        have f7:=thawT hb7
        have l7:P<w7.heap.size:=(Array.getElem?_eq_some_iff.1 hb7).1
        have HM:Hid (PAt Xs (w7.setCell ⟨P,2,none⟩ (.slice g7 (A+1) c7')) P U (.slice g7 (A+1) c7') (A+1) (.slice na1 Bn nc1) Bn tx s2∧Fr (fun g=>g=P∨(Value.slice pa1 A pc1).ownBlock=some g) W (w7.setCell ⟨P,2,none⟩ (.slice g7 (A+1) c7'))∧∀ g,(Value.slice g7 (A+1) c7').ownBlock=some g->(Value.slice pa1 A pc1).ownBlock=some g∨W.heap.size<=g):=by
         refine⟨HPA.out.pushP (n:=0) HCS.out.1 (pgs_fr (S:=fun _=>False) HCS.out.2 (Fr.of_below hal2) (fun _ e=>e.elim)) HNM.out (HNC.out.below hal2) hown7 hgr7,(HFV.out.trans ((Fr.of_below hal2).trans (Fr.of_grown hgr7 (fun g e=>.inr e)))).trans ((fr_setT w7 P 2 _).weak (fun g e=>.inl e)),fun g e=>?_⟩
         rcases hlies7 with h9 | h9
         ·rw[h9] at e;exact .inl e
         ·exact .inr (Nat.le_trans HFV.out.size (Nat.le_trans hal2.size (h9 g e)))
        clear hown7 hgr7 hlies7 hb7 hrow HPA hal2 z0 z1 z2 z3 z4 lPA
        refine hK.out _ _ (trivial) (fun hHeld=>?_)
        clear hK K
        refine tY 8 (.pointer (some ⟨P,0,none⟩)) (.f (.s (.s (.s .z)))) (by kernel_rfl) (by rfl) ?_ ‹_› ?_
        ·intro wq hSw;go_simp
        refine tY 9 (.pointer (some ⟨P,2,none⟩)) (.f (.s (.s (.s (.s .z))))) (by kernel_rfl) (by rfl) ?_ ‹_› ?_
        ·intro wq hSw;go_simp
        try simp only[Act.put,q1,q2,q3]
        refine wpAnyH_ready (rs:=[10]) (by kernel_rfl) (by simp) ?_
        refine rdA (.t .z) (fun K hK=>?_) AllReadyH.nil
        go_simp
        refine hK.out _ _ (trivial) (fun hHeld=>?_)
        clear hK K
        try simp only[Act.put,q1,q2,q3]
        refine wpAnyH_done (by kernel_rfl) ?_ _
        refine NoPanic.normal ?_
        clear hHeld t0 t1 t2 t3 t4 f7 l7
        go_wp2_with fail
        go_meet
        exact⟨g7,c7',HM⟩
    case rest =>
     obtain⟨pa2,pc2,HC⟩:=hcut
     obtain⟨hc1,hc2,hc3⟩:=HC.out
     have hzz:∀ g,ZP P U (.slice pa2 (A+1) pc2) (.slice na1 Bn nc1) g->ZP P U (.slice pa1 A pc1) (.slice na1 Bn nc1) g∨W.heap.size<=g:=ZP.next (fun g e=>.inl e) hc3 (fun g e=>.inl e) (Nat.le_refl _)
     have HL4:Hid (LfSt Xs w wc N P U (.slice pa a pc) (.slice na b nc) #[.bool true,.int .i64 y,.slice ka i kc,.slice va i vc,.slice xa i xc,.slice (some ⟨N+3,0,none⟩) 0 0] (.slice xa i xc) i ob.1 pa2 (A+1) pc2 na1 Bn nc1 tx s2):=HL3.out.step hc1 (hc2.weak (fun g e=>e.elim .inl (fun e=>.inr (.inr (.inl e))))) hzz
     have HF4:Hid (Fr (fun g=>g=N∨g=N+1∨g=N+2∨ZP P U (.slice pa1 A pc1) (.slice na1 Bn nc1) g) wr wc):=HF3.out.trans (hc2.weak (fun g e=>.inr (.inr (.inr (e.elim .inl (fun e=>.inr (.inr (.inl e))))))))
     have HZ4:Hid (∀ g,ZP P U (.slice pa2 (A+1) pc2) (.slice na1 Bn nc1) g->ZP P U (.slice pa1 A pc1) (.slice na1 Bn nc1) g∨wr.heap.size<=g):=fun g e=>(hzz g e).elim .inl (fun e=>.inr (Nat.le_trans HF3.out.size e))
     have HNW2:Hid (s2.log[Bn]?=some (y,pc9)):=by show _=_;rw[HNX.out.2.2,HALB.out.2];simp
     clear hzz hc1 hc2 hc3 HC HL3 HP3 HF3 HPW kK lKW HNW
     have HNW:=HNW2
     generalize wc=W at HL4 HF4 ⊢
     have HPW:Hid (PAt Xs W P U (.slice pa2 (A+1) pc2) (A+1) (.slice na1 Bn nc1) Bn tx s2):=HL4.out.pat
     go_upto_region 31 with fail
     go_cut [] (fun wx=>∃ (na2:Option Addr) (nc2:Nat),Hid (PAt Xs wx P U (.slice pa2 (A+1) pc2) (A+1) (.slice na2 (Bn+1) nc2) (Bn+1) tx s2∧Fr (fun g=>g=P∨(Value.slice na1 Bn nc1).ownBlock=some g) W wx∧∀ g,(Value.slice na2 (Bn+1) nc2).ownBlock=some g->(Value.slice na1 Bn nc1).ownBlock=some g∨W.heap.size<=g))
     case first =>
      have bV0:=(Below.refl W.heap.size W).drew
      refine wp_region_noPanic ?_
      refine wp_region_held_drew (S:=(fun _:World=>True)) (by kernel_rfl) (trivial) (fun hHeld=>?_)
      clear hHeld
      generalize W.drew=V at bV0 ⊢
      have hHeld:=trivial
      have HPV:Hid (PAt Xs V P U (.slice pa2 (A+1) pc2) (A+1) (.slice na1 Bn nc1) Bn tx s2):=HPW.out.below bV0
      have HFV:Hid (Fr (fun g=>g=P∨(Value.slice na1 Bn nc1).ownBlock=some g) W V):=Fr.of_below bV0
      have hrV:=HPV.out.nms
      have HNM:Hid (s2.log[Bn]?=some (y,pc9)):=HNW.out
      have HRN:Hid (V.ownsRow 0 2 1 (.slice na1 Bn nc1) Bn (rowsOf intCells ((s2.log.take Bn).map Prod.fst))):=hrV
      clear hrV
      obtain⟨q0,q1,q2,q3,q4⟩:=box5P HPV.out.box
      have lP:P<V.heap.size:=HPV.out.lt (.inl rfl)
      have kV:V.heap[N]?=_:=(bV0.block N (HL4.out.lb (.inl rfl)).1).trans HL4.out.k0
      obtain⟨d0,d1,d2,d3,d4,d5⟩:=box6g kV
      have lNV:N<V.heap.size:=(Array.getElem?_eq_some_iff.1 kV).1
      clear bV0
      refine tY 0 (.pointer (some ⟨P,0,none⟩)) .z (by kernel_rfl) (by rfl) ?_ ‹_› ?_
      ·intro wq hSw;go_simp
      refine tY 1 (.pointer (some ⟨P,0,none⟩)) (.s .z) (by kernel_rfl) (by rfl) ?_ ‹_› ?_
      ·intro wq hSw;go_simp
      refine tY 2 (.pointer (some ⟨P,0,none⟩)) (.s (.s .z)) (by kernel_rfl) (by rfl) ?_ ‹_› ?_
      ·intro wq hSw;go_simp
      refine tY 3 (.pointer (some ⟨P,3,none⟩)) (.s (.s (.s .z))) (by kernel_rfl) (by rfl) ?_ ‹_› ?_
      ·intro wq hSw;go_simp
      try simp only[Act.put,q1,q2,q3]
      refine tY 5 (.pointer (some ⟨N,1,none⟩)) (.f .z) (by kernel_rfl) (by rfl) ?_ ‹_› ?_
      ·intro wq hSw;go_simp
      try simp only[Act.put,q1,q2,q3]
      refine wpAnyH_ready (rs:=[4,6]) (by kernel_rfl) (by simp) ?_
      refine rdA (.s (.s (.s (.s .z)))) (fun K hK=>?_) ?_
      rotate_left 1
      refine rdA (.f (.s .z)) (fun K hK=>?_) ?_
      rotate_left 1
      exact AllReadyH.nil
      ·go_simp
       refine hK.out _ _ (trivial) (fun hHeld=>?_)
       clear hK K
       try simp only[Act.put,q1,q2,q3]
       refine wpAnyH_ready (rs:=[6]) (by kernel_rfl) (by simp) ?_
       refine rdA (.f (.s .z)) (fun K hK=>?_) AllReadyH.nil
       go_simp
       refine hK.out _ _ (trivial) (fun hHeld=>?_)
       clear hK K
       try simp only[Act.put,q1,q2,q3]
       refine wpAnyH_ready (rs:=[7]) (by kernel_rfl) (by simp) ?_
       refine rdA (.f (.s (.s .z))) (fun K hK=>?_) AllReadyH.nil
       go_simp
       have hal2:=(Below.refl V.heap.size V).alloc (Nat.le_refl _) (.cells #[.int .i64 y] 2)
       have HPA:Hid (PAt Xs (V.alloc (.cells #[.int .i64 y] 2)) P U (.slice pa2 (A+1) pc2) (A+1) (.slice na1 Bn nc1) Bn tx s2):=HPV.out.below hal2
       obtain⟨z0,z1,z2,z3,z4⟩:=box5P HPA.out.box
       have lPA:P<(V.alloc (.cells #[.int .i64 y] 2)).heap.size:=HPA.out.lt (.inl rfl)
       refine hK.out _ _ (trivial) (fun hHeld=>?_)
       clear hK K
       try simp only[Act.put,q1,q2,q3]
       refine wpAnyH_ready (rs:=[8]) (by kernel_rfl) (by simp) ?_
       refine rdA (.f (.s (.s (.s .z)))) (fun K hK=>?_) AllReadyH.nil
       have hrow:=owns_below HRN.out hal2
       refine step_append_T rfl _ _ 25 rfl 0 2 ii _ 1 8 Tryz.underlying25 hii hj0 hj1 hj2 rfl (by decide) (.slice na1 Bn nc1) Bn (rowsOf intCells ((s2.log.take Bn).map Prod.fst)) (by simp[Act.eval]) hrow ⟨V.heap.size,0,none⟩ 1 1 [.int .i64 y] (by simp[Act.eval]) rfl (cell_one_newP _ _ _) (by simp[Value.oneCell']) (by unfold maxLen;omega) (by omega) (Nat.zero_le _) ?_
       intro u7 w7 hown7 hgr7 hlies7
       obtain⟨g7,c7',rfl⟩:=own_shape hown7
       have hb7:w7.heap[P]?=_:=(hgr7.block P lPA (fun e=>HPA.out.apart.2.2.1 e.symm)).trans HPA.out.box
       obtain⟨t0,t1,t2,t3,t4⟩:=box5P hb7
       have f7:=thawT hb7
       have l7:P<w7.heap.size:=(Array.getElem?_eq_some_iff.1 hb7).1
       have HM:Hid (PAt Xs (w7.setCell ⟨P,3,none⟩ (.slice g7 (Bn+1) c7')) P U (.slice pa2 (A+1) pc2) (A+1) (.slice g7 (Bn+1) c7') (Bn+1) tx s2∧Fr (fun g=>g=P∨(Value.slice na1 Bn nc1).ownBlock=some g) W (w7.setCell ⟨P,3,none⟩ (.slice g7 (Bn+1) c7'))∧∀ g,(Value.slice g7 (Bn+1) c7').ownBlock=some g->(Value.slice na1 Bn nc1).ownBlock=some g∨W.heap.size<=g):=by
        refine⟨HPA.out.pushN HNM.out hown7 hgr7,(HFV.out.trans ((Fr.of_below hal2).trans (Fr.of_grown hgr7 (fun g e=>.inr e)))).trans ((fr_setT w7 P 3 _).weak (fun g e=>.inl e)),fun g e=>?_⟩
        rcases hlies7 with h9 | h9
        ·rw[h9] at e;exact .inl e
        ·exact .inr (Nat.le_trans HFV.out.size (Nat.le_trans hal2.size (h9 g e)))
       clear hown7 hgr7 hlies7 hb7 hrow HPA hal2 z0 z1 z2 z3 z4 lPA
       refine hK.out _ _ (trivial) (fun hHeld=>?_)
       clear hK K
       refine tY 9 (.pointer (some ⟨P,0,none⟩)) (.f (.s (.s (.s (.s .z))))) (by kernel_rfl) (by rfl) ?_ ‹_› ?_
       ·intro wq hSw;go_simp
       refine tY 10 (.pointer (some ⟨P,3,none⟩)) (.t .z) (by kernel_rfl) (by rfl) ?_ ‹_› ?_
       ·intro wq hSw;go_simp
       try simp only[Act.put,q1,q2,q3]
       refine wpAnyH_ready (rs:=[11]) (by kernel_rfl) (by simp) ?_
       refine rdA (.t (.s .z)) (fun K hK=>?_) AllReadyH.nil
       go_simp
       refine hK.out _ _ (trivial) (fun hHeld=>?_)
       clear hK K
       try simp only[Act.put,q1,q2,q3]
       refine wpAnyH_done (by kernel_rfl) ?_ _
       refine NoPanic.normal ?_
       clear hHeld t0 t1 t2 t3 t4 f7 l7
       go_wp2_with fail
       go_meet
       exact⟨g7,c7',HM⟩
      ·go_simp
       refine hK.out _ _ (trivial) (fun hHeld=>?_)
       clear hK K
       try simp only[Act.put,q1,q2,q3]
       refine wpAnyH_ready (rs:=[4,7]) (by kernel_rfl) (by simp) ?_
       refine rdA (.s (.s (.s (.s .z)))) (fun K hK=>?_) ?_
       rotate_left 1
       refine rdA (.f (.s (.s .z))) (fun K hK=>?_) ?_
       rotate_left 1
       exact AllReadyH.nil
       ·go_simp
        refine hK.out _ _ (trivial) (fun hHeld=>?_)
        clear hK K
        try simp only[Act.put,q1,q2,q3]
        refine wpAnyH_ready (rs:=[7]) (by kernel_rfl) (by simp) ?_
        refine rdA (.f (.s (.s .z))) (fun K hK=>?_) AllReadyH.nil
        go_simp
        have hal2:=(Below.refl V.heap.size V).alloc (Nat.le_refl _) (.cells #[.int .i64 y] 2)
        have HPA:Hid (PAt Xs (V.alloc (.cells #[.int .i64 y] 2)) P U (.slice pa2 (A+1) pc2) (A+1) (.slice na1 Bn nc1) Bn tx s2):=HPV.out.below hal2
        obtain⟨z0,z1,z2,z3,z4⟩:=box5P HPA.out.box
        have lPA:P<(V.alloc (.cells #[.int .i64 y] 2)).heap.size:=HPA.out.lt (.inl rfl)
        refine hK.out _ _ (trivial) (fun hHeld=>?_)
        clear hK K
        try simp only[Act.put,q1,q2,q3]
        refine wpAnyH_ready (rs:=[8]) (by kernel_rfl) (by simp) ?_
        refine rdA (.f (.s (.s (.s .z)))) (fun K hK=>?_) AllReadyH.nil
        have hrow:=owns_below HRN.out hal2
        refine step_append_T rfl _ _ 25 rfl 0 2 ii _ 1 8 Tryz.underlying25 hii hj0 hj1 hj2 rfl (by decide) (.slice na1 Bn nc1) Bn (rowsOf intCells ((s2.log.take Bn).map Prod.fst)) (by simp[Act.eval]) hrow ⟨V.heap.size,0,none⟩ 1 1 [.int .i64 y] (by simp[Act.eval]) rfl (cell_one_newP _ _ _) (by simp[Value.oneCell']) (by unfold maxLen;omega) (by omega) (Nat.zero_le _) ?_
        intro u7 w7 hown7 hgr7 hlies7
        obtain⟨g7,c7',rfl⟩:=own_shape hown7
        have hb7:w7.heap[P]?=_:=(hgr7.block P lPA (fun e=>HPA.out.apart.2.2.1 e.symm)).trans HPA.out.box
        obtain⟨t0,t1,t2,t3,t4⟩:=box5P hb7
        have f7:=thawT hb7
        have l7:P<w7.heap.size:=(Array.getElem?_eq_some_iff.1 hb7).1
        have HM:Hid (PAt Xs (w7.setCell ⟨P,3,none⟩ (.slice g7 (Bn+1) c7')) P U (.slice pa2 (A+1) pc2) (A+1) (.slice g7 (Bn+1) c7') (Bn+1) tx s2∧Fr (fun g=>g=P∨(Value.slice na1 Bn nc1).ownBlock=some g) W (w7.setCell ⟨P,3,none⟩ (.slice g7 (Bn+1) c7'))∧∀ g,(Value.slice g7 (Bn+1) c7').ownBlock=some g->(Value.slice na1 Bn nc1).ownBlock=some g∨W.heap.size<=g):=by
         refine⟨HPA.out.pushN HNM.out hown7 hgr7,(HFV.out.trans ((Fr.of_below hal2).trans (Fr.of_grown hgr7 (fun g e=>.inr e)))).trans ((fr_setT w7 P 3 _).weak (fun g e=>.inl e)),fun g e=>?_⟩
         rcases hlies7 with h9 | h9
         ·rw[h9] at e;exact .inl e
         ·exact .inr (Nat.le_trans HFV.out.size (Nat.le_trans hal2.size (h9 g e)))
        clear hown7 hgr7 hlies7 hb7 hrow HPA hal2 z0 z1 z2 z3 z4 lPA
        refine hK.out _ _ (trivial) (fun hHeld=>?_)
        clear hK K
        refine tY 9 (.pointer (some ⟨P,0,none⟩)) (.f (.s (.s (.s (.s .z))))) (by kernel_rfl) (by rfl) ?_ ‹_› ?_
        ·intro wq hSw;go_simp
        refine tY 10 (.pointer (some ⟨P,3,none⟩)) (.t .z) (by kernel_rfl) (by rfl) ?_ ‹_› ?_
        ·intro wq hSw;go_simp
        try simp only[Act.put,q1,q2,q3]
        refine wpAnyH_ready (rs:=[11]) (by kernel_rfl) (by simp) ?_
        refine rdA (.t (.s .z)) (fun K hK=>?_) AllReadyH.nil
        go_simp
        refine hK.out _ _ (trivial) (fun hHeld=>?_)
        clear hK K
        try simp only[Act.put,q1,q2,q3]
        refine wpAnyH_done (by kernel_rfl) ?_ _
        refine NoPanic.normal ?_
        clear hHeld t0 t1 t2 t3 t4 f7 l7
        go_wp2_with fail
        go_meet
        exact⟨g7,c7',HM⟩
       ·go_simp
        have hal2:=(Below.refl V.heap.size V).alloc (Nat.le_refl _) (.cells #[.int .i64 y] 2)
        have HPA:Hid (PAt Xs (V.alloc (.cells #[.int .i64 y] 2)) P U (.slice pa2 (A+1) pc2) (A+1) (.slice na1 Bn nc1) Bn tx s2):=HPV.out.below hal2
        obtain⟨z0,z1,z2,z3,z4⟩:=box5P HPA.out.box
        have lPA:P<(V.alloc (.cells #[.int .i64 y] 2)).heap.size:=HPA.out.lt (.inl rfl)
        refine hK.out _ _ (trivial) (fun hHeld=>?_)
        clear hK K
        try simp only[Act.put,q1,q2,q3]
        refine wpAnyH_ready (rs:=[4]) (by kernel_rfl) (by simp) ?_
        refine rdA (.s (.s (.s (.s .z)))) (fun K hK=>?_) AllReadyH.nil
        go_simp
        refine hK.out _ _ (trivial) (fun hHeld=>?_)
        clear hK K
        try simp only[Act.put,q1,q2,q3]
        refine wpAnyH_ready (rs:=[8]) (by kernel_rfl) (by simp) ?_
        refine rdA (.f (.s (.s (.s .z)))) (fun K hK=>?_) AllReadyH.nil
        have hrow:=owns_below HRN.out hal2
        refine step_append_T rfl _ _ 25 rfl 0 2 ii _ 1 8 Tryz.underlying25 hii hj0 hj1 hj2 rfl (by decide) (.slice na1 Bn nc1) Bn (rowsOf intCells ((s2.log.take Bn).map Prod.fst)) (by simp[Act.eval]) hrow ⟨V.heap.size,0,none⟩ 1 1 [.int .i64 y] (by simp[Act.eval]) rfl (cell_one_newP _ _ _) (by simp[Value.oneCell']) (by unfold maxLen;omega) (by omega) (Nat.zero_le _) ?_
        intro u7 w7 hown7 hgr7 hlies7
        obtain⟨g7,c7',rfl⟩:=own_shape hown7
        have hb7:w7.heap[P]?=_:=(hgr7.block P lPA (fun e=>HPA.out.apart.2.2.1 e.symm)).trans HPA.out.box
        obtain⟨t0,t1,t2,t3,t4⟩:=box5P hb7
        have f7:=thawT hb7
        have l7:P<w7.heap.size:=(Array.getElem?_eq_some_iff.1 hb7).1
        have HM:Hid (PAt Xs (w7.setCell ⟨P,3,none⟩ (.slice g7 (Bn+1) c7')) P U (.slice pa2 (A+1) pc2) (A+1) (.slice g7 (Bn+1) c7') (Bn+1) tx s2∧Fr (fun g=>g=P∨(Value.slice na1 Bn nc1).ownBlock=some g) W (w7.setCell ⟨P,3,none⟩ (.slice g7 (Bn+1) c7'))∧∀ g,(Value.slice g7 (Bn+1) c7').ownBlock=some g->(Value.slice na1 Bn nc1).ownBlock=some g∨W.heap.size<=g):=by
         refine⟨HPA.out.pushN HNM.out hown7 hgr7,(HFV.out.trans ((Fr.of_below hal2).trans (Fr.of_grown hgr7 (fun g e=>.inr e)))).trans ((fr_setT w7 P 3 _).weak (fun g e=>.inl e)),fun g e=>?_⟩
         rcases hlies7 with h9 | h9
         ·rw[h9] at e;exact .inl e
         ·exact .inr (Nat.le_trans HFV.out.size (Nat.le_trans hal2.size (h9 g e)))
        clear hown7 hgr7 hlies7 hb7 hrow HPA hal2 z0 z1 z2 z3 z4 lPA
        refine hK.out _ _ (trivial) (fun hHeld=>?_)
        clear hK K
        refine tY 9 (.pointer (some ⟨P,0,none⟩)) (.f (.s (.s (.s (.s .z))))) (by kernel_rfl) (by rfl) ?_ ‹_› ?_
        ·intro wq hSw;go_simp
        refine tY 10 (.pointer (some ⟨P,3,none⟩)) (.t .z) (by kernel_rfl) (by rfl) ?_ ‹_› ?_
        ·intro wq hSw;go_simp
        try simp only[Act.put,q1,q2,q3]
        refine wpAnyH_ready (rs:=[11]) (by kernel_rfl) (by simp) ?_
        refine rdA (.t (.s .z)) (fun K hK=>?_) AllReadyH.nil
        go_simp
        refine hK.out _ _ (trivial) (fun hHeld=>?_)
        clear hK K
        try simp only[Act.put,q1,q2,q3]
        refine wpAnyH_done (by kernel_rfl) ?_ _
        refine NoPanic.normal ?_
        clear hHeld t0 t1 t2 t3 t4 f7 l7
        go_wp2_with fail
        go_meet
        exact⟨g7,c7',HM⟩
     case rest =>
      obtain⟨na2,nc2,HC⟩:=hcut
      obtain⟨hc1,hc2,hc3⟩:=HC.out
      have hzz:∀ g,ZP P U (.slice pa2 (A+1) pc2) (.slice na2 (Bn+1) nc2) g->ZP P U (.slice pa2 (A+1) pc2) (.slice na1 Bn nc1) g∨W.heap.size<=g:=ZP.next (fun g e=>.inl e) (fun g e=>.inl e) hc3 (Nat.le_refl _)
      have HL5:Hid (LfSt Xs w wc N P U (.slice pa a pc) (.slice na b nc) #[.bool true,.int .i64 y,.slice ka i kc,.slice va i vc,.slice xa i xc,.slice (some ⟨N+3,0,none⟩) 0 0] (.slice xa i xc) i ob.1 pa2 (A+1) pc2 na2 (Bn+1) nc2 tx s2):=HL4.out.step hc1 (hc2.weak (fun g e=>e.elim .inl (fun e=>.inr (.inr (.inr e))))) hzz
      have HF5:Hid (Fr (fun g=>g=N∨g=N+1∨g=N+2∨ZP P U (.slice pa1 A pc1) (.slice na1 Bn nc1) g) wr wc):=HF4.out.trans (hc2.weak (fun g e=>.inr (.inr (.inr (e.elim .inl (fun e=>.inr (.inr (.inr e))))))))
      have HZ5:Hid (∀ g,ZP P U (.slice pa2 (A+1) pc2) (.slice na2 (Bn+1) nc2) g->ZP P U (.slice pa1 A pc1) (.slice na1 Bn nc1) g∨wr.heap.size<=g):=fun g e=>(hzz g e).elim (HZ4.out g) (fun e=>.inr (Nat.le_trans HF4.out.size e))
      clear hzz hc1 hc2 hc3 HC HPW HL4 HF4 HZ4
      obtain⟨q0,q1,q2,q3,q4,q5⟩:=box6g HL5.out.k0
      obtain⟨z0,z1,z2,z3,z4,z5⟩:=box6g HL5.out.k1
      have f1:=thawT HL5.out.k1
      have lN:=(HL5.out.lb (.inl rfl)).1
      have l1:=(HL5.out.lb (.inr (.inl rfl))).1
      have kf:=put6T_box HL5.out.k1 (.bool true) (.int .i64 y) (.slice ka i kc) (.slice va i vc) (.slice xa i xc) (.slice (some ⟨N+3,0,none⟩) 0 0)
      have fb:=put6T_fr wc (N+1) (.bool true) (.int .i64 y) (.slice ka i kc) (.slice va i vc) (.slice xa i xc) (.slice (some ⟨N+3,0,none⟩) 0 0)
      obtain⟨y0,y1,y2,y3,y4,y5⟩:=box6g kf
      have HF6:Hid (Fr (fun g=>g=N∨g=N+1∨g=N+2∨ZP P U (.slice pa1 A pc1) (.slice na1 Bn nc1) g) wr (put6T wc (N+1) (.bool true) (.int .i64 y) (.slice ka i kc) (.slice va i vc) (.slice xa i xc) (.slice (some ⟨N+3,0,none⟩) 0 0))):=HF5.out.trans (fb.weak (fun g e=>.inr (.inl e)))
      have HO6:Hid ((put6T wc (N+1) (.bool true) (.int .i64 y) (.slice ka i kc) (.slice va i vc) (.slice xa i xc) (.slice (some ⟨N+3,0,none⟩) 0 0)).ownsRow (N+4) 2 1 (.slice xa i xc) i (rowsOf intCells ob.1)):=owns_fr HL5.out.over fb (fun g e e'=>by have:=(HL5.out.over.lt g e).1;omega)
      have HP6:Hid (PAt Xs (put6T wc (N+1) (.bool true) (.int .i64 y) (.slice ka i kc) (.slice va i vc) (.slice xa i xc) (.slice (some ⟨N+3,0,none⟩) 0 0)) P U (.slice pa2 (A+1) pc2) (A+1) (.slice na2 (Bn+1) nc2) (Bn+1) tx s2):=HL5.out.pat.fr fb (fun g e e'=>by have:=HL5.out.zn e;omega) (fun g e=>.inr (e ▸ nk_blk HL5.out.k1 (by decide) (by decide)))
      have HR6:Hid (Fr (ZP P U (.slice pa a pc) (.slice na b nc)) w (put6T wc (N+1) (.bool true) (.int .i64 y) (.slice ka i kc) (.slice va i vc) (.slice xa i xc) (.slice (some ⟨N+3,0,none⟩) 0 0))):=HL5.out.fr.up3 fb (fun g e=>.inr (by rw[hN];omega))
      have HV6:Hid (∀ g,(Value.slice xa i xc).ownBlock=some g->¬ ZP P U (.slice pa2 (A+1) pc2) (.slice na2 (Bn+1) nc2) g∧N+4<=g):=fun g e=>⟨HL5.out.ovz e,(HL5.out.over.lt g e).1⟩
      have HH6:Hid (∀ g,ZP P U (.slice pa2 (A+1) pc2) (.slice na2 (Bn+1) nc2) g->ZP P U (.slice pa a pc) (.slice na b nc) g∨N+4<=g):=HL5.out.hz
      clear fb kf
      go_wp2_with fail
      rw[put6T_eq]
      refine bodyPost_ret (v:=.agg #[.bool true,.int .i64 y,.slice ka i kc,.slice va i vc,.slice xa i xc,.slice (some ⟨N+3,0,none⟩) 0 0]) (by simp[results,Tryz.results21,go_sem,y0,y1,y2,y3,y4,y5]) rfl ?_
      clear HL5 HF5 q0 q1 q2 q3 q4 q5 z0 z1 z2 z3 z4 z5 f1 lN l1 y0 y1 y2 y3 y4 y5
      generalize put6T wc (N+1) (.bool true) (.int .i64 y) (.slice ka i kc) (.slice va i vc) (.slice xa i xc) (.slice (some ⟨N+3,0,none⟩) 0 0)=Z at HF6 HO6 HP6 HR6 ⊢
      have hXf:=HZR.out Z HR6.out
      obtain⟨xa',xc',e9,hov⟩:=rowsAt_own (fit:=I64) (d:=0) (fun _=>rfl) HO6.out HFT0.out
      cases e9
      have HRT:Hid ((placeT t s).1=⟨true,y,t.keys,t.vals,ob.1,[]⟩∧(placeT t s).2=s2):=by
       rw[HPL.out,HOB.out]
       refine⟨?_,?_⟩
       ·show T.mk _ _ _ _ _ _=_
        rw[HNX.out.1]
       ·rw[<-HNX.out.2.1,<-HPC9.out,HESA.out,<-HNX.out.1]
        rfl
      have hq0:∀ {a':Option Addr},QA (fun g=>Q g∨(Value.slice xa i xc).ownBlock=some g) a' 0:=fun h=>absurd h (by omega)
      have hoq:QA (fun g=>Q g∨(Value.slice xa i xc).ownBlock=some g) xa i:=fun h0=>by
       obtain⟨G9,rfl⟩:=owns_someD HO6.out h0
       exact⟨G9,0,rfl,.inr rfl⟩
      refine⟨_,(fun g=>Q g∨(Value.slice xa i xc).ownBlock=some g),pa2,A+1,pc2,na2,Bn+1,nc2,rfl,?_,?_,HR6.out,?_,?_,by have:=HLN.out;omega,by have:=HLN.out;omega,by rw[HRT.out.2,HNX.out.2.2,HALB.out.1];simp,by rw[HRT.out.2,HNX.out.2.2,HALB.out.2];simp⟩
      ·rw[HRT.out.1]
       exact⟨ka,i,kc,va,i,vc,xa,i,xc,some ⟨N+3,0,none⟩,0,fun _=>[],rfl,⟨⟨i64_small ⟨hy0,hy1⟩,hXf.nx.keys,hXf.nx.vals,hov,⟨Nat.le_refl _,by unfold maxLen;omega⟩,fun h0=>absurd h0 (by simp),fun j k hm=>by cases hm⟩,hXf.qk.mono (fun g e=>.inl e),hXf.qv.mono (fun g e=>.inl e),hoq,hq0,fun j k hm=>by cases hm⟩⟩
      ·rw[HRT.out.2];exact HP6.out
      ·exact fun g e=>(HH6.out g e).elim .inl (fun e=>.inr (by omega))
      ·intro g e
       rcases e with e | e
       ·refine⟨.inl e,fun q=>?_,Nat.lt_of_lt_of_le (HQ.out g e).1 (by have:=HR6.out.size;omega)⟩
        rcases HH6.out g q with q | q
        ·exact (HQ.out g e).2 q
        ·have:=(HQ.out g e).1;omega
       ·exact⟨.inr (by have:=(HV6.out g e).2;omega),(HV6.out g e).1,(HO6.out.lt g e).2⟩
end Go.Proofs.YtkhglgalbifcnaaGreat
