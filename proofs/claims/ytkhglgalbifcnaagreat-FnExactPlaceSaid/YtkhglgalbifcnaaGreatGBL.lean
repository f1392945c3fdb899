import Derived.Test.YtkhglgalbifcnaaGreatGAD
import Derived.Test.YtkhglgalbifcnaaGreatGAP
import Derived.Test.YtkhglgalbifcnaaGreatTpk
import Derived.Deep.QuietTactic
import Derived.BigQuiet
import Derived.Deep.RegionWith
namespace Go.Proofs.YtkhglgalbifcnaaGreat
set_option maxHeartbeats 1600000
open Go.RowKit
set_option linter.unusedVariables false
set_option linter.unusedSimpArgs false
set_option maxRecDepth 100000
theorem eqStringS_same (a:Option Addr) (n c:Nat) (a2:Option Addr) (c2:Nat) (xs:List ByteArray) (w:World) (A B A2 B2:Nat) (hB:B<=w.heap.size) (hB2:B2<=w.heap.size) (h:StrsAt w A B a n c xs) (k:StrsAt w A2 B2 a2 n c2 xs) :
  Calls Tryz.prog 86 #[.slice a n c,.slice a2 n c2] w fun e w'=>e=.returned (.bool true)∧Below w.heap.size w w':=by
 have hc:=Nat.le_trans h.2.1 h.2.2.1
 unfold maxLen at hc
 have hne:((n:Int) != (n:Int))=false:=by simp
 go_enter Tryz.func86,Tryz.ntmps86
 go_wp2
 go_loopw [5] (fun i wr=>∃ k:Nat,k<=n∧i=.int .i64 k∧Below w.heap.size w wr) (fun i _=>n - (intOf i).toNat)
 case atStart=>exact⟨0,Nat.zero_le _,rfl,Below.refl _ _⟩
 case round =>
  obtain⟨j,hj,rfl,hbel⟩:=hrel
  by_cases hlt:j<n
  ·obtain⟨b,off,rfl,hb,hfit,e0⟩:=StrsAt.at (h.below (hbel.mono hB)) hlt
   obtain⟨b2,off2,rfl,hb2,hfit2,f0⟩:=StrsAt.at (k.below (hbel.mono hB2)) hlt
   clear h k
   generalize xs.getD j ByteArray.empty=s at e0 f0 hfit hfit2
   have hd:=hbel.drew
   go_wp2
   go_quiet (fail)
   go_wp2
   go_roundw
   case rel=>exact⟨j+1,by omega,by go_num,hbel.trans ⟨rfl,rfl,rfl,Nat.le_refl _,fun _ _=>rfl⟩⟩
   case measure=>simp[intOf];omega
  ·go_wp2
   go_ret
   exact⟨rfl,hbel⟩
theorem intsT_at {fit:Int->Prop} {w:World} {A B:Nat} {a:Option Addr} {n c:Nat} {xs:List Int} (h:RowsAt w A B 1 intCells fit 0 a n c xs) {i:Nat} (hi:i<n) :
  ∃ b off,a=some ⟨b,off,none⟩∧(A<=b∧b<B)∧fit (xs.getD i 0)∧w.cell? ⟨b,off+i,none⟩=some (.int .i64 (xs.getD i 0)):=by
 obtain⟨h1,h2,h3,h4,h5⟩:=h
 obtain⟨b,off,rfl,hlt,hc⟩:=h5 (by omega)
 exact⟨b,off,rfl,hlt,h4 i hi,by simpa[intCells] using hc i hi 0 (by omega)⟩
theorem eqInt64S_same {fit fit2:Int->Prop} (a:Option Addr) (n c:Nat) (a2:Option Addr) (c2:Nat) (xs:List Int) (w:World) (A B A2 B2:Nat) (hB:B<=w.heap.size) (hB2:B2<=w.heap.size) (h:RowsAt w A B 1 intCells fit 0 a n c xs) (k:RowsAt w A2 B2 1 intCells fit2 0 a2 n c2 xs) :
  Calls Tryz.prog 11 #[.slice a n c,.slice a2 n c2] w fun e w'=>e=.returned (.bool true)∧Below w.heap.size w w':=by
 have hc:=Nat.le_trans h.2.1 h.2.2.1
 unfold maxLen at hc
 have hne:((n:Int) != (n:Int))=false:=by simp
 go_enter Tryz.func11,Tryz.ntmps11
 go_wp2
 go_loopw [5] (fun i wr=>∃ k:Nat,k<=n∧i=.int .i64 k∧Below w.heap.size w wr) (fun i _=>n - (intOf i).toNat)
 case atStart=>exact⟨0,Nat.zero_le _,rfl,Below.refl _ _⟩
 case round =>
  obtain⟨j,hj,rfl,hbel⟩:=hrel
  by_cases hlt:j<n
  ·obtain⟨b,off,rfl,hb,hfit,e0⟩:=intsT_at (h.below (hbel.mono hB)) hlt
   obtain⟨b2,off2,rfl,hb2,hfit2,f0⟩:=intsT_at (k.below (hbel.mono hB2)) hlt
   clear h k
   generalize xs.getD j 0=s at e0 f0 hfit hfit2
   have hd:=hbel.drew
   have hsb:(s != s)=false:=by simp
   go_wp2
   go_quiet (fail)
   go_wp2
   go_roundw
   case rel=>exact⟨j+1,by omega,by go_num,hbel.trans ⟨rfl,rfl,rfl,Nat.le_refl _,fun _ _=>rfl⟩⟩
   case measure=>simp[intOf];omega
  ·go_wp2
   go_ret
   exact⟨rfl,hbel⟩
theorem eqTNode_same (lf:Bool) (pg:Int) (ks vs:List ByteArray) (os ys:List Int) (ka:Option Addr) (kn kc:Nat) (va:Option Addr) (vn vc:Nat) (oa:Option Addr) (on oc:Nat) (ya:Option Addr) (yn yc:Nat) (ka2:Option Addr) (kc2:Nat) (va2:Option Addr) (vc2:Nat) (oa2:Option Addr) (oc2:Nat) (ya2:Option Addr) (yc2:Nat) (w:World) (A B A2 B2:Nat) (hB:B<=w.heap.size) (hB2:B2<=w.heap.size)
  (hK:StrsAt w A B ka kn kc ks) (hV:StrsAt w A B va vn vc vs) (hO:IntsAt w A B oa on oc os) (hY:IntsAt w A B ya yn yc ys) (hK2:StrsAt w A2 B2 ka2 kn kc2 ks) (hV2:StrsAt w A2 B2 va2 vn vc2 vs) (hO2:IntsAt w A2 B2 oa2 on oc2 os) (hY2:IntsAt w A2 B2 ya2 yn yc2 ys) :
  Calls Tryz.prog 58 #[.agg #[.bool lf,.int .i64 pg,.slice ka kn kc,.slice va vn vc,.slice oa on oc,.slice ya yn yc],.agg #[.bool lf,.int .i64 pg,.slice ka2 kn kc2,.slice va2 vn vc2,.slice oa2 on oc2,.slice ya2 yn yc2]] w fun e w'=>e=.returned (.bool true)∧Below w.heap.size w w':=by
 obtain⟨N,hN⟩:∃ N,w.heap.size=N:=⟨_,rfl⟩
 have s1:(w.alloc (.cells #[.bool lf,.int .i64 pg,.slice ka kn kc,.slice va vn vc,.slice oa on oc,.slice ya yn yc] 103)).heap.size=N+1:=by simp[hN]
 have k0:=heap_alloc_new w (.cells #[.bool lf,.int .i64 pg,.slice ka kn kc,.slice va vn vc,.slice oa on oc,.slice ya yn yc] 103)
 have k1:=heap_alloc_new (w.alloc (.cells #[.bool lf,.int .i64 pg,.slice ka kn kc,.slice va vn vc,.slice oa on oc,.slice ya yn yc] 103)) (.cells #[.bool lf,.int .i64 pg,.slice ka2 kn kc2,.slice va2 vn vc2,.slice oa2 on oc2,.slice ya2 yn yc2] 103)
 have kb:=(Below.refl (w.alloc (.cells #[.bool lf,.int .i64 pg,.slice ka kn kc,.slice va vn vc,.slice oa on oc,.slice ya yn yc] 103)).heap.size _).alloc (Nat.le_refl _) (.cells #[.bool lf,.int .i64 pg,.slice ka2 kn kc2,.slice va2 vn vc2,.slice oa2 on oc2,.slice ya2 yn yc2] 103)
 have b0:Below w.heap.size w ((w.alloc (.cells #[.bool lf,.int .i64 pg,.slice ka kn kc,.slice va vn vc,.slice oa on oc,.slice ya yn yc] 103)).alloc (.cells #[.bool lf,.int .i64 pg,.slice ka2 kn kc2,.slice va2 vn vc2,.slice oa2 on oc2,.slice ya2 yn yc2] 103)):=((Below.refl _ _).alloc (Nat.le_refl _) _).alloc (by simp) _
 have k00:=(kb.block w.heap.size (by omega)).trans k0
 have z0:((w.alloc (.cells #[.bool lf,.int .i64 pg,.slice ka kn kc,.slice va vn vc,.slice oa on oc,.slice ya yn yc] 103)).alloc (.cells #[.bool lf,.int .i64 pg,.slice ka2 kn kc2,.slice va2 vn vc2,.slice oa2 on oc2,.slice ya2 yn yc2] 103)).heap.size=N+2:=by simp[hN]
 rw[s1] at k1
 rw[hN] at k00
 clear k0 kb s1
 have e1:(lf != lf)=false:=by simp
 have e2:(pg != pg)=false:=by simp
 go_enter Tryz.func58,Tryz.ntmps58
 go_wp2_with fail
 generalize ((w.alloc (.cells #[.bool lf,.int .i64 pg,.slice ka kn kc,.slice va vn vc,.slice oa on oc,.slice ya yn yc] 103)).alloc (.cells #[.bool lf,.int .i64 pg,.slice ka2 kn kc2,.slice va2 vn vc2,.slice oa2 on oc2,.slice ya2 yn yc2] 103))=W0 at k1 k00 b0 z0 ⊢
 refine (eqStringS_same _ _ _ _ _ ks W0 A B A2 B2 (by omega) (by omega) (hK.below (b0.mono hB)) (hK2.below (b0.mono hB2))).mono ?_
 rintro e w1 ⟨rfl,h1⟩
 have b1:=b0.trans (h1.mono (by omega))
 have z1:N+2<=w1.heap.size:=by have:=h1.size;omega
 have j0:=(h1.block _ (by omega)).trans k00
 have j1:=(h1.block _ (by omega)).trans k1
 obtain⟨x0,x1,x2,x3,x4,x5⟩:=box6 j0
 obtain⟨y0,y1,y2,y3,y4,y5⟩:=box6 j1
 have l0:N<w1.heap.size:=by omega
 have l1:N+1<w1.heap.size:=by omega
 clear k00 k1 b0 z0 h1 hK hK2
 go_wp2_with fail
 refine (eqStringS_same _ _ _ _ _ vs w1 A B A2 B2 (by omega) (by omega) (hV.below (b1.mono hB)) (hV2.below (b1.mono hB2))).mono ?_
 rintro e w2 ⟨rfl,h2⟩
 have b2:=b1.trans (h2.mono (by omega))
 have z2:N+2<=w2.heap.size:=by have:=h2.size;omega
 have i0:=(h2.block _ (by omega)).trans j0
 have i1:=(h2.block _ (by omega)).trans j1
 clear x0 x1 x2 x3 x4 x5 y0 y1 y2 y3 y4 y5 j0 j1 b1 z1 h2 hV hV2 l0 l1
 obtain⟨x0,x1,x2,x3,x4,x5⟩:=box6 i0
 obtain⟨y0,y1,y2,y3,y4,y5⟩:=box6 i1
 have l0:N<w2.heap.size:=by omega
 have l1:N+1<w2.heap.size:=by omega
 go_wp2_with fail
 refine (eqInt64S_same _ _ _ _ _ os w2 A B A2 B2 (by omega) (by omega) (hO.below (b2.mono hB)) (hO2.below (b2.mono hB2))).mono ?_
 rintro e w3 ⟨rfl,h3⟩
 have b3:=b2.trans (h3.mono (by omega))
 have z3:N+2<=w3.heap.size:=by have:=h3.size;omega
 have j0:=(h3.block _ (by omega)).trans i0
 have j1:=(h3.block _ (by omega)).trans i1
 clear x0 x1 x2 x3 x4 x5 y0 y1 y2 y3 y4 y5 i0 i1 b2 z2 h3 hO hO2 l0 l1
 obtain⟨x0,x1,x2,x3,x4,x5⟩:=box6 j0
 obtain⟨y0,y1,y2,y3,y4,y5⟩:=box6 j1
 have l0:N<w3.heap.size:=by omega
 have l1:N+1<w3.heap.size:=by omega
 go_wp2_with fail
 refine (eqInt64S_same _ _ _ _ _ ys w3 A B A2 B2 (by omega) (by omega) (hY.below (b3.mono hB)) (hY2.below (b3.mono hB2))).mono ?_
 rintro e w4 ⟨rfl,h4⟩
 have b4:=b3.trans (h4.mono (by omega))
 go_wp2_with fail
 go_ret
 exact⟨rfl,b4⟩
theorem eqTNodeS_same (a:Option Addr) (n c:Nat) (a2:Option Addr) (c2:Nat) (ts:List TN) (w:World) (A B A2 B2:Nat) (hB:B<=w.heap.size) (hB2:B2<=w.heap.size) (h:NodesAt w A B a n c ts) (k:NodesAt w A2 B2 a2 n c2 ts) :
  Calls Tryz.prog 30 #[.slice a n c,.slice a2 n c2] w fun e w'=>e=.returned (.bool true)∧Below w.heap.size w w':=by
 have hc:=Nat.le_trans h.2.1 h.2.2.1
 unfold maxLen at hc
 have hne:((n:Int) != (n:Int))=false:=by simp
 go_enter Tryz.func30,Tryz.ntmps30
 go_wp2
 go_loopw [5] (fun i wr=>∃ k:Nat,k<=n∧i=.int .i64 k∧Below w.heap.size w wr) (fun i _=>n - (intOf i).toNat)
 case atStart=>exact⟨0,Nat.zero_le _,rfl,Below.refl _ _⟩
 case round =>
  obtain⟨j,hj,rfl,hbel⟩:=hrel
  by_cases hlt:j<n
  ·obtain⟨b,off,rfl,hb,ka,kn,kc,va,vn,vc,oa,on,oc,ya,yn,yc,hN⟩:=NodesAt.at (h.below (hbel.mono hB)) hlt
   obtain⟨b2,off2,rfl,hb2,ka2,kn2,kc2,va2,vn2,vc2,oa2,on2,oc2,ya2,yn2,yc2,hN2⟩:=NodesAt.at (k.below (hbel.mono hB2)) hlt
   clear h k
   generalize ts.getD j dT=t at hN hN2
   obtain⟨c0,c1,c2,c3,c4,c5,hpg,hK,hV,hO,hY⟩:=hN
   obtain⟨d0,d1,d2,d3,d4,d5,hpg2,hK2,hV2,hO2,hY2⟩:=hN2
   obtain rfl:kn2=kn:=hK2.1.symm.trans hK.1
   obtain rfl:vn2=vn:=hV2.1.symm.trans hV.1
   obtain rfl:on2=on:=hO2.1.symm.trans hO.1
   obtain rfl:yn2=yn:=hY2.1.symm.trans hY.1
   have hs:=hbel.size
   have hsd:wr.drew.heap.size=wr.heap.size:=rfl
   go_wp2
   go_region_with (go_at_call 58;refine (eqTNode_same t.leaf t.page t.keys t.vals t.over t.kids ka kn2 kc va vn2 vc oa on2 oc ya yn2 yc ka2 kc2 va2 vc2 oa2 oc2 ya2 yc2 _ A B A2 B2 ?_ ?_ ?_ ?_ ?_ ?_ ?_ ?_ ?_ ?_).mono ?_;exact Nat.le_trans hB hs;exact Nat.le_trans hB2 hs;exact hK;exact hV;exact hO;exact hY;exact hK2;exact hV2;exact hO2;exact hY2;rintro e w1 ⟨rfl,hb1⟩)
   all_goals
    go_wp2
    go_roundw
    case rel=>exact⟨j+1,by omega,by go_num,(hbel.drew).trans (hb1.mono hs)⟩
    case measure=>simp[intOf];omega
  ·go_wp2
   go_ret
   exact⟨rfl,hbel⟩
theorem eqTree_same (a:Option Addr) (n c:Nat) (a2:Option Addr) (c2:Nat) (ts:List TN) (w:World) (A B A2 B2:Nat) (hB:B<=w.heap.size) (hB2:B2<=w.heap.size) (h:NodesAt w A B a n c ts) (k:NodesAt w A2 B2 a2 n c2 ts) :
  Calls Tryz.prog 10 #[.agg #[.slice a n c],.agg #[.slice a2 n c2]] w fun e w'=>e=.returned (.bool true)∧Below w.heap.size w w':=by
 have hb0:Below w.heap.size w ((w.alloc (.cells #[.slice a n c] 29)).alloc (.cells #[.slice a2 n c2] 29)):=((Below.refl _ _).alloc (Nat.le_refl _) _).alloc (by simp) _
 have hs:=hb0.size
 go_enter Tryz.func10,Tryz.ntmps10
 go_wp2_with (go_at_call 30;refine (eqTNodeS_same a n c a2 c2 ts _ A B A2 B2 (by omega) (by omega) (h.below (hb0.mono hB)) (k.below (hb0.mono hB2))).mono ?_;rintro e w1 ⟨rfl,hb1⟩)
 go_ret
 exact⟨rfl,hb0.trans (hb1.mono hb0.size)⟩
theorem Hid.i {p:Prop} (h:p):Hid p:=h
theorem getD_setI (l:List Bool) (i j:Nat):(l.set i true).getD j true=(decide (j=i) || l.getD j true):=by
 by_cases h:j=i
 ·subst h
  by_cases hl:j<l.length<;>simp[List.getD,hl,List.getElem?_eq_none]
 ·simp[List.getD,List.getElem?_set,h,Ne.symm h]
def frB (u:List Bool) (k:Nat):Bool:=!(u.getD k true)
def freeN (s:PSt):List Int:=((List.range' 2 998).filter (frB s.used)).map (fun i:Nat=>(i:Int))
theorem frN_none (u:List Bool):∀ (f i:Nat),freeFrom u i f=none->(List.range' i f).filter (frB u)=[]
 | 0,i,h=>rfl
 | f+1,i,h=>by
  rw[freeFrom] at h
  split at h
  ·rename_i hu
   rw[List.range'_succ,List.filter_cons,if_neg (by unfold frB;rw[hu];decide)]
   exact frN_none u f (i+1) h
  ·cases h
theorem frN_cons (u:List Bool):∀ (f i j:Nat),freeFrom u i f=some j->(List.range' i f).filter (frB u)=j::(List.range' i f).filter (frB (u.set j true))
 | 0,i,j,h=>by simp[freeFrom] at h
 | f+1,i,j,h=>by
  rw[freeFrom] at h
  split at h
  ·rename_i hu
   have ih:=frN_cons u f (i+1) j h
   rw[List.range'_succ,List.filter_cons,if_neg (by unfold frB;rw[hu];decide),List.filter_cons,if_neg (by unfold frB;rw[getD_setI,hu];cases decide (i=j)<;>decide)]
   exact ih
  ·rename_i hu
   have hu2:u.getD i true=false:=by simpa using hu
   simp only[Option.some.injEq] at h
   subst h
   rw[List.range'_succ,List.filter_cons,if_pos (by unfold frB;rw[hu2];rfl),List.filter_cons,if_neg (by unfold frB;rw[getD_setI];simp)]
   congr 1
   apply List.filter_congr
   intro k hk
   have:i<k:=by have:=List.mem_range'_1.1 hk;omega
   unfold frB
   rw[getD_setI]
   simp[show ¬ k=i by omega]
theorem freeN_nil {s:PSt} (h:freeN s=[]):nxtP s=(0,{ s with bad:=true }):=by
 unfold nxtP
 cases hf:freeFrom s.used 2 998 with
 | none=>rfl
 | some j =>
  exfalso
  unfold freeN at h
  rw[frN_cons _ _ _ _ hf] at h
  simp at h
theorem freeN_cons {s:PSt} {x:Int} {r:List Int} (h:freeN s=x::r):(nxtP s).1=x∧freeN (nxtP s).2=r∧(nxtP s).2.bad=s.bad∧2<=x∧x<=999:=by
 unfold nxtP
 cases hf:freeFrom s.used 2 998 with
 | none =>
  exfalso
  unfold freeN at h
  rw[frN_none _ _ _ hf] at h
  simp at h
 | some j =>
  obtain⟨h1,h2,_⟩:=free_some _ _ _ _ hf
  unfold freeN at h
  rw[frN_cons _ _ _ _ hf,List.map_cons] at h
  simp only[List.cons.injEq] at h
  exact⟨h.1,h.2,rfl,by omega,by omega⟩
theorem freeN_len (s:PSt):(freeN s).length<=998:=by
 unfold freeN
 rw[List.length_map]
 exact Nat.le_trans (List.length_filter_le _ _) (by simp)
def KB (cs:List Value) (g:Nat):Prop:=(cs.getD 5 (.bool false)).ownBlock=some g∨(cs.getD 6 (.bool false)).ownBlock=some g
theorem rows_neI {w:World} {b1 b2 e1 e2 s1 s2 n1 n2:Nat} {u v:Value} {xs ys:List Value} (h:w.ownsRow b1 e1 s1 u n1 xs) (k:w.ownsRow b2 e2 s2 v n2 ys) (hne:e1≠e2) {g:Nat} (hu:u.ownBlock=some g):v.ownBlock≠some g:=by
 obtain⟨cur,hk⟩:=own_ty h hu
 exact own_ne_ty k hk (fun e=>hne e.symm)
theorem setT_sizeI (w:World) (g i:Nat) (v:Value):(w.setCell ⟨g,i,none⟩ v).heap.size=w.heap.size:=by simp[World.setCell]
structure QAt (w:World) (P:Nat) (Z:Nat->Prop) (tx:Int) (s:PSt) (fa:Option Addr) (fn fc:Nat) (pv nv:Value) (css:List (List Value)) (ns:List Int) (pl:List PgC):Prop where
 zp:Z P
 box:w.heap[P]?=some (.cells #[.int .i64 tx,.slice fa fn fc,.bool s.bad,pv,nv] 68)
 free:RowsAt w 0 w.heap.size 1 intCells (fun _=>True) 0 fa fn fc (freeN s)
 fblk:∀ b off,fa=some ⟨b,off,none⟩->Z b∧nv.ownBlock≠some b∧∃ cs,w.heap[b]?=some (.cells cs 2)
 prow:w.ownsRow 0 93 9 pv pl.length css.flatten
 pblk:∀ g,pv.ownBlock=some g->Z g
 nrow:w.ownsRow 0 2 1 nv ns.length (rowsOf intCells ns)
 nblk:∀ g,nv.ownBlock=some g->Z g
 cl:css.length=pl.length
 pgs:∀ (i:Nat) cs,css[i]?=some cs->∃ c,pl[i]?=some c∧PgIs (fun g=>¬ Z g) w tx cs c
 ap:∀ (i j:Nat) ci cj g,css[i]?=some ci->css[j]?=some cj->KB ci g->KB cj g->i=j
 lt:∀ g,Z g->g<w.heap.size
def QW (w:World) (P:Nat) (Z:Nat->Prop) (tx:Int) (s:PSt):Prop:=∃ fa fn fc pv nv css,QAt w P Z tx s fa fn fc pv nv css (s.log.map Prod.fst) (s.log.map Prod.snd)
theorem PgIs.keepZ {Z:Nat->Prop} {w w':World} {tx:Int} {cs:List Value} {c:PgC} (h:PgIs (fun g=>¬ Z g) w tx cs c) (hZ:∀ g,Z g->NK w g∨w'.heap[g]?=w.heap[g]?):PgIs (fun g=>¬ Z g) w' tx cs c:=by
 obtain⟨ka,kc,ea,ec,e,h1,h2,h3,h4⟩:=h
 refine⟨ka,kc,ea,ec,e,owns_keepG h1 (fun g q=>?_),owns_keepG h2 (fun g q=>?_),h3,h4⟩
 ·obtain⟨cur,hk⟩:=own_ty h1 q
  rcases hZ g (Classical.not_not.1 (h3 g q)) with a | a
  ·exact absurd rfl (a _ _ hk).1
  ·exact a
 ·obtain⟨cur,hk⟩:=own_ty h2 q
  rcases hZ g (Classical.not_not.1 (h4 g q)) with a | a
  ·exact absurd rfl (a _ _ hk).2
  ·exact a
theorem RowsAt.keepB {α:Type} {w w':World} {m:Nat} {cs:α->List Value} {fit:α->Prop} {d:α} {a:Option Addr} {n c:Nat} {xs:List α} (h:RowsAt w 0 w.heap.size m cs fit d a n c xs) (hs:w.heap.size<=w'.heap.size) (hb:∀ b off,a=some ⟨b,off,none⟩->b<w.heap.size->w'.heap[b]?=w.heap[b]?):RowsAt w' 0 w'.heap.size m cs fit d a n c xs:=by
 obtain⟨h1,h2,h3,h4,h5⟩:=h
 refine⟨h1,h2,h3,h4,fun hn=>?_⟩
 obtain⟨b,off,rfl,hlt,hc⟩:=h5 hn
 refine⟨b,off,rfl,⟨hlt.1,by omega⟩,fun i hi j hj=>?_⟩
 rw[World.cell?_of_block (w':=w') (w:=w) (hb b off rfl hlt.2)]
 exact hc i hi j hj
theorem QAt.keep {w w':World} {P:Nat} {Z:Nat->Prop} {tx:Int} {s:PSt} {fa:Option Addr} {fn fc:Nat} {pv nv:Value} {css:List (List Value)} {ns:List Int} {pl:List PgC} (h:QAt w P Z tx s fa fn fc pv nv css ns pl) (hs:w.heap.size<=w'.heap.size) (hZ:∀ g,Z g->w'.heap[g]?=w.heap[g]?):QAt w' P Z tx s fa fn fc pv nv css ns pl :=
 ⟨h.zp,(hZ P h.zp).trans h.box,h.free.keepB hs (fun b off e _=>hZ b (h.fblk b off e).1),fun b off e=>⟨(h.fblk b off e).1,(h.fblk b off e).2.1,by obtain⟨cs,q⟩:=(h.fblk b off e).2.2;exact⟨cs,(hZ b (h.fblk b off e).1).trans q⟩⟩,owns_keepG h.prow (fun g e=>hZ g (h.pblk g e)),h.pblk,owns_keepG h.nrow (fun g e=>hZ g (h.nblk g e)),h.nblk,h.cl,fun i cs hi=>by obtain⟨c,e,q⟩:=h.pgs i cs hi;exact⟨c,e,q.keepZ (fun g hg=>.inr (hZ g hg))⟩,h.ap,fun g hg=>Nat.lt_of_lt_of_le (h.lt g hg) hs⟩
theorem QW.keep {w w':World} {P:Nat} {Z:Nat->Prop} {tx:Int} {s:PSt} (h:QW w P Z tx s) (hs:w.heap.size<=w'.heap.size) (hZ:∀ g,Z g->w'.heap[g]?=w.heap[g]?):QW w' P Z tx s:=by
 obtain⟨fa,fn,fc,pv,nv,css,q⟩:=h
 exact⟨fa,fn,fc,pv,nv,css,q.keep hs hZ⟩
theorem QW.lt {w:World} {P:Nat} {Z:Nat->Prop} {tx:Int} {s:PSt} (h:QW w P Z tx s):∀ g,Z g->g<w.heap.size:=by
 obtain⟨fa,fn,fc,pv,nv,css,q⟩:=h
 exact q.lt
theorem QW.fr {S:Nat->Prop} {w w':World} {P:Nat} {Z:Nat->Prop} {tx:Int} {s:PSt} (h:QW w P Z tx s) (hf:Fr S w w') (hS:∀ g,Z g->¬ S g):QW w' P Z tx s:=h.keep hf.size (fun g hg=>hf.block g (h.lt g hg) (hS g hg))
theorem QW.below {w w':World} {P:Nat} {Z:Nat->Prop} {tx:Int} {s:PSt} (h:QW w P Z tx s) (hb:Below w.heap.size w w'):QW w' P Z tx s:=h.fr (S:=fun _=>False) (Fr.of_below hb) (fun _ _ e=>e)
theorem next_any (P:Nat) (Z:Nat->Prop) (tx:Int) (s:PSt) (w:World) (h:QW w P Z tx s) :
  Calls Tryz.prog 103 #[.pointer (some ⟨P,0,none⟩)] w fun e w'=>e=.returned (.int .i64 (nxtP s).1)∧w'=w:=by
 obtain⟨fa,fn,fc,pv,nv,css,q⟩:=h
 obtain⟨c0,c1,c2,c3,c4⟩:=box5P q.box
 have lP:=q.lt P q.zp
 have hl:=q.free.1
 have hln:=freeN_len s
 cases hf:freeN s with
 | nil =>
  have HN:Hid ((nxtP s).1=0):=by show _=_;rw[freeN_nil hf]
  rw[hf] at hl
  obtain rfl:0=fn:=hl
  clear q hf hln
  go_enter Tryz.func103,Tryz.ntmps103
  go_wp2_with fail
  go_ret
  exact⟨by rw[HN.out];rfl,rfl⟩
 | cons x r =>
  have HN:Hid ((nxtP s).1=x):=(freeN_cons hf).1
  have hfn:0<fn:=by rw[<-hl,hf];simp
  have hfm:fn<=998:=by omega
  obtain⟨b,off,rfl,hb,_,e0⟩:=intsT_at q.free hfn
  rw[hf] at e0
  have e1:w.cell? ⟨b,off,none⟩=some (.int .i64 x):=e0
  have lb:=hb.2
  have hne:¬ ((fn:Int)=0):=by omega
  have hne2:((fn:Int) == 0)=false:=by simpa using hne
  clear q hf hl hln e0 hb
  go_enter Tryz.func103,Tryz.ntmps103
  go_wp2_with fail
  go_ret
  exact⟨by rw[HN.out];rfl,rfl⟩
theorem QAt.poke {w:World} {P:Nat} {Z:Nat->Prop} {tx:Int} {s s':PSt} {fa fa':Option Addr} {fn fc fn' fc':Nat} {pv nv:Value} {css:List (List Value)} {ns:List Int} {pl:List PgC} (h:QAt w P Z tx s fa fn fc pv nv css ns pl) (i:Nat) (v:Value)
  (hb:(w.setCell ⟨P,i,none⟩ v).heap[P]?=some (.cells #[.int .i64 tx,.slice fa' fn' fc',.bool s'.bad,pv,nv] 68)) (hf:RowsAt w 0 w.heap.size 1 intCells (fun _=>True) 0 fa' fn' fc' (freeN s')) (he:∀ b off,fa'=some ⟨b,off,none⟩->∃ o,fa=some ⟨b,o,none⟩) :
  QAt (w.setCell ⟨P,i,none⟩ v) P Z tx s' fa' fn' fc' pv nv css ns pl:=by
 have F:=fr_setT w P i v
 have lP:=h.lt P h.zp
 have hk:∀ g,Z g->g≠P->(w.setCell ⟨P,i,none⟩ v).heap[g]?=w.heap[g]?:=fun g hg hne=>F.block g (h.lt g hg) hne
 have hne:∀ b off,fa'=some ⟨b,off,none⟩->Z b∧b≠P∧nv.ownBlock≠some b∧∃ cs,w.heap[b]?=some (.cells cs 2):=fun b off e=>by
  obtain⟨o,e2⟩:=he b off e
  obtain⟨h1,h2,cs,h3⟩:=h.fblk b o e2
  refine⟨h1,fun e3=>?_,h2,cs,h3⟩
  rw[e3,h.box] at h3
  simp at h3
 refine⟨h.zp,hb,hf.keepB F.size (fun b off e _=>hk b (hne b off e).1 (hne b off e).2.1),fun b off e=>⟨(hne b off e).1,(hne b off e).2.2.1,?_⟩,?_,h.pblk,?_,h.nblk,h.cl,fun j cs hj=>?_,h.ap,fun g hg=>Nat.lt_of_lt_of_le (h.lt g hg) F.size⟩
 ·obtain⟨cs,q⟩:=(hne b off e).2.2.2
  exact⟨cs,(hk b (hne b off e).1 (hne b off e).2.1).trans q⟩
 ·exact owns_keepG h.prow (fun g e=>hk g (h.pblk g e) (fun e2=>own_ne_ty h.prow h.box (by decide) (e2 ▸ e)))
 ·exact owns_keepG h.nrow (fun g e=>hk g (h.nblk g e) (fun e2=>own_ne_ty h.nrow h.box (by decide) (e2 ▸ e)))
 ·obtain⟨c,e,q⟩:=h.pgs j cs hj
  refine⟨c,e,q.keepZ (fun g hg=>?_)⟩
  by_cases e2:g=P
  ·exact .inl (e2 ▸ nk_blk h.box (by decide) (by decide))
  ·exact .inr (hk g hg e2)
theorem RowsAt.tail1 {w:World} {B b off n c:Nat} {x:Int} {r:List Int} (h:RowsAt w 0 B 1 intCells (fun _=>True) 0 (some ⟨b,off,none⟩) n c (x::r)):RowsAt w 0 B 1 intCells (fun _=>True) 0 (some ⟨b,off+1,none⟩) (n - 1) (c - 1) r:=by
 obtain⟨h1,h2,h3,h4,h5⟩:=h
 simp only[List.length_cons] at h1
 refine⟨by omega,by omega,by omega,fun _ _=>trivial,fun hn=>?_⟩
 obtain⟨b',off',e,hlt,hc⟩:=h5 (by omega)
 simp only[Option.some.injEq,Addr.mk.injEq,and_true] at e
 obtain⟨rfl,rfl⟩:=e
 refine⟨b,off+1,rfl,hlt,fun i hi j hj=>?_⟩
 have:=hc (i+1) (by omega) j hj
 rw[show off+1+i*1+j=off+(i+1)*1+j by omega,this]
 simp
theorem take_any (P:Nat) (Z:Nat->Prop) (tx:Int) (s:PSt) (w:World) (h:QW w P Z tx s) :
  Calls Tryz.prog 81 #[.pointer (some ⟨P,0,none⟩)] w fun e w'=>e=.returned (.int .i64 (nxtP s).1)∧QW w' P Z tx (nxtP s).2∧Fr (fun g=>g=P) w w':=by
 have hnx:=next_any P Z tx s w h
 obtain⟨fa,fn,fc,pv,nv,css,q⟩:=h
 obtain⟨c0,c1,c2,c3,c4⟩:=box5P q.box
 have fP:=thawT q.box
 have lP:=q.lt P q.zp
 have hl:=q.free.1
 have hln:=freeN_len s
 have HQ:Hid (QAt w P Z tx s fa fn fc pv nv css (s.log.map Prod.fst) (s.log.map Prod.snd)):=q
 cases hf:freeN s with
 | nil =>
  have e1:(nxtP s).1=0:=by rw[freeN_nil hf]
  have HE:Hid ((nxtP s).2={ s with bad:=true }):=by show _=_;rw[freeN_nil hf]
  rw[e1] at hnx ⊢
  have HF:Hid (freeN s=[]):=hf
  clear q hf hln hl e1
  go_enter Tryz.func81,Tryz.ntmps81
  go_wp2_with fail
  refine hnx.mono ?_
  rintro e w1 ⟨rfl,rfl⟩
  go_wp2_with fail
  go_ret
  refine⟨rfl,?_,fr_setT _ P 2 _⟩
  rw[HE.out]
  exact⟨fa,fn,fc,pv,nv,css,HQ.out.poke 2 _ (by rw[heap_setT HQ.out.box];simp) (by have:=HQ.out.free;exact this) (fun b off e=>⟨off,e⟩)⟩
 | cons x r =>
  obtain⟨e1,e2,e3,e4,e5⟩:=freeN_cons hf
  rw[e1] at hnx ⊢
  have hfn:0<fn:=by rw[<-hl,hf];simp
  have hfm:fn<=998:=by omega
  have hfc:fn<=fc:=q.free.2.1
  have hfc2:fc<=maxLen:=q.free.2.2.1
  unfold maxLen at hfc2
  obtain⟨b,off,rfl,hb,_,e0⟩:=intsT_at q.free hfn
  have hx0:¬ (x=0):=by omega
  have HT:Hid (RowsAt w 0 w.heap.size 1 intCells (fun _=>True) 0 (some ⟨b,off+1,none⟩) (fn - 1) (fc - 1) (freeN (nxtP s).2)):=by
   have:=q.free
   rw[hf] at this
   rw[e2]
   exact this.tail1
  have HB:Hid ((nxtP s).2.bad=s.bad):=e3
  by_cases hf1:fc=1
  ·obtain rfl:fn=1:=by omega
   subst hf1
   have HT2:Hid (RowsAt w 0 w.heap.size 1 intCells (fun _=>True) 0 (some ⟨b,off,none⟩) 0 0 (freeN (nxtP s).2)):=⟨HT.out.1,Nat.le_refl _,Nat.zero_le _,fun _ _=>trivial,fun h=>absurd h (Nat.lt_irrefl _)⟩
   clear q hf hln hl e0 e1 e2 e3 hb HT
   go_enter Tryz.func81,Tryz.ntmps81
   go_wp2_with fail
   refine hnx.mono ?_
   rintro e w1 ⟨rfl,rfl⟩
   go_wp2_with fail
   go_ret
   refine⟨rfl,?_,fr_setT _ P 1 _⟩
   have HK:=HQ.out.poke (s':=(nxtP s).2) (fa':=some ⟨b,off,none⟩) (fn':=0) (fc':=0) 1 (.slice (some ⟨b,off,none⟩) 0 0) (by rw[heap_setT HQ.out.box,HB.out];simp) HT2.out (fun b' off' e=>⟨off,by simp at e;rw[e.1]⟩)
   exact⟨_,_,_,_,_,_,by rw[nxt_log];exact HK⟩
  ·clear q hf hln hl e0 e1 e2 e3 hb
   go_enter Tryz.func81,Tryz.ntmps81
   go_wp2_with fail
   refine hnx.mono ?_
   rintro e w1 ⟨rfl,rfl⟩
   go_wp2_with fail
   go_ret
   refine⟨rfl,?_,fr_setT _ P 1 _⟩
   have HK:=HQ.out.poke (s':=(nxtP s).2) (fa':=some ⟨b,off+1,none⟩) (fn':=fn - 1) (fc':=fc - 1) 1 (.slice (some ⟨b,off+1,none⟩) (fn - 1) (fc - 1)) (by rw[heap_setT HQ.out.box,HB.out];simp) HT.out (fun b' off' e=>⟨off,by simp at e;rw[e.1]⟩)
   exact⟨_,_,_,_,_,_,by rw[nxt_log];exact HK⟩
theorem QAt.log {w:World} {P:Nat} {Z:Nat->Prop} {tx:Int} {s:PSt} {fa:Option Addr} {fn fc:Nat} {pv nv:Value} {css:List (List Value)} {ns:List Int} {pl:List PgC} (h:QAt w P Z tx s fa fn fc pv nv css ns pl) (l:List (Int × PgC)):QAt w P Z tx { s with log:=l } fa fn fc pv nv css ns pl:=⟨h.zp,h.box,h.free,h.fblk,h.prow,h.pblk,h.nrow,h.nblk,h.cl,h.pgs,h.ap,h.lt⟩
theorem QAt.pushN {w w':World} {P:Nat} {Z:Nat->Prop} {tx y:Int} {s:PSt} {fa:Option Addr} {fn fc:Nat} {pv nv v':Value} {css:List (List Value)} {ns:List Int} {pl:List PgC} (h:QAt w P Z tx s fa fn fc pv nv css ns pl) (ho:w'.ownsRow 0 2 1 v' (ns.length+1) (rowsOf intCells ns++[.int .i64 y])) (hg:w.grownBy w' nv.ownBlock) (hl:v'.ownBlock=nv.ownBlock∨∀ g,v'.ownBlock=some g->w.heap.size<=g) :
  QAt (w'.setCell ⟨P,4,none⟩ v') P (fun g=>Z g∨(w.heap.size<=g∧g<w'.heap.size)) tx s fa fn fc pv v' css (ns++[y]) pl∧Fr Z w (w'.setCell ⟨P,4,none⟩ v'):=by
 have F:=fr_setT w' P 4 v'
 have G:Fr (fun g=>nv.ownBlock=some g) w w':=Fr.of_grown hg (fun g e=>e)
 have lP:=h.lt P h.zp
 have nP:nv.ownBlock≠some P:=own_ne_ty h.nrow h.box (by decide)
 have hk:∀ g,Z g->g≠P->nv.ownBlock≠some g->(w'.setCell ⟨P,4,none⟩ v').heap[g]?=w.heap[g]?:=fun g hg hne hnv=>(F.block g (Nat.lt_of_lt_of_le (h.lt g hg) G.size) hne).trans (G.block g (h.lt g hg) hnv)
 have hs:w.heap.size<=(w'.setCell ⟨P,4,none⟩ v').heap.size:=Nat.le_trans G.size F.size
 have hs2:(w'.setCell ⟨P,4,none⟩ v').heap.size=w'.heap.size:=setT_sizeI w' P 4 v'
 have hbP:=(G.block P lP nP).trans h.box
 have hv:∀ g,v'.ownBlock=some g->(Z g∨(w.heap.size<=g∧g<w'.heap.size))∧g≠P:=fun g e=>by
  refine⟨?_,fun e2=>own_ne_ty ho hbP (by decide) (e2 ▸ e)⟩
  rcases hl with q | q
  ·exact .inl (h.nblk g (q ▸ e))
  ·exact .inr ⟨q g e,(ho.lt g e).2⟩
 have hfb:∀ b off,fa=some ⟨b,off,none⟩->Z b∧b≠P∧nv.ownBlock≠some b∧∃ cs,w.heap[b]?=some (.cells cs 2):=fun b off e=>by
  obtain⟨h1,h2,cs,h3⟩:=h.fblk b off e
  refine⟨h1,fun e3=>?_,h2,cs,h3⟩
  rw[e3,h.box] at h3
  simp at h3
 refine⟨⟨.inl h.zp,by rw[heap_setT hbP];simp,h.free.keepB hs (fun b off e _=>hk b (hfb b off e).1 (hfb b off e).2.1 (hfb b off e).2.2.1),fun b off e=>⟨.inl (hfb b off e).1,fun q=>?_,?_⟩,?_,fun g e=>.inl (h.pblk g e),?_,fun g e=>(hv g e).1,h.cl,fun j cs hj=>?_,h.ap,fun g hg=>hg.elim (fun q=>Nat.lt_of_lt_of_le (h.lt g q) hs) (fun q=>by rw[hs2];exact q.2)⟩,?_⟩
 ·rcases hl with q' | q'
  ·exact (hfb b off e).2.2.1 (q' ▸ q)
  ·have:=q' b q
   have:=h.lt b (hfb b off e).1
   omega
 ·obtain⟨cs,q⟩:=(hfb b off e).2.2.2
  exact⟨cs,(hk b (hfb b off e).1 (hfb b off e).2.1 (hfb b off e).2.2.1).trans q⟩
 ·exact owns_keepG h.prow (fun g e=>hk g (h.pblk g e) (fun e2=>own_ne_ty h.prow h.box (by decide) (e2 ▸ e)) (rows_neI h.prow h.nrow (by decide) e))
 ·have:=owns_keepG (w':=w'.setCell ⟨P,4,none⟩ v') ho (fun g e=>F.block g (ho.lt g e).2 (hv g e).2)
  simpa[rowsOf,intCells] using this
 ·obtain⟨c,e,q⟩:=h.pgs j cs hj
  refine⟨c,e,PgIs.less (q.keepZ (fun g hg=>?_)) (fun g e _ e2=>e (.inl e2))⟩
  by_cases e2:g=P
  ·exact .inl (e2 ▸ nk_blk h.box (by decide) (by decide))
  ·by_cases e3:nv.ownBlock=some g
   ·exact .inl (nk_row h.nrow e3 (by decide) (by decide))
   ·exact .inr (hk g hg e2 e3)
 ·exact (G.weak (fun g e=>h.nblk g e)).trans (F.weak (fun g e=>e ▸ h.zp))
theorem QAt.pushP {w w':World} {P:Nat} {Z R:Nat->Prop} {tx:Int} {s:PSt} {fa:Option Addr} {fn fc:Nat} {pv nv v':Value} {css:List (List Value)} {ns:List Int} {pl:List PgC} {cs:List Value} {c:PgC} (h:QAt w P Z tx s fa fn fc pv nv css ns pl) (hc:PgIs (fun g=>¬ R g) w tx cs c) (hR:∀ g,R g->g<w.heap.size∧¬ Z g) (ho:w'.ownsRow 0 93 9 v' (pl.length+1) (css.flatten++cs)) (hg:w.grownBy w' pv.ownBlock) (hl:v'.ownBlock=pv.ownBlock∨∀ g,v'.ownBlock=some g->w.heap.size<=g) :
  QAt (w'.setCell ⟨P,3,none⟩ v') P (fun g=>Z g∨R g∨(w.heap.size<=g∧g<w'.heap.size)) tx s fa fn fc v' nv (css++[cs]) ns (pl++[c])∧Fr Z w (w'.setCell ⟨P,3,none⟩ v'):=by
 have F:=fr_setT w' P 3 v'
 have G:Fr (fun g=>pv.ownBlock=some g) w w':=Fr.of_grown hg (fun g e=>e)
 have lP:=h.lt P h.zp
 have nP:pv.ownBlock≠some P:=own_ne_ty h.prow h.box (by decide)
 have hk:∀ g,g<w.heap.size->g≠P->pv.ownBlock≠some g->(w'.setCell ⟨P,3,none⟩ v').heap[g]?=w.heap[g]?:=fun g hg hne hnv=>(F.block g (Nat.lt_of_lt_of_le hg G.size) hne).trans (G.block g hg hnv)
 have hs:w.heap.size<=(w'.setCell ⟨P,3,none⟩ v').heap.size:=Nat.le_trans G.size F.size
 have hs2:(w'.setCell ⟨P,3,none⟩ v').heap.size=w'.heap.size:=setT_sizeI w' P 3 v'
 have hbP:=(G.block P lP nP).trans h.box
 have hv:∀ g,v'.ownBlock=some g->(Z g∨R g∨(w.heap.size<=g∧g<w'.heap.size))∧g≠P:=fun g e=>by
  refine⟨?_,fun e2=>own_ne_ty ho hbP (by decide) (e2 ▸ e)⟩
  rcases hl with q | q
  ·exact .inl (h.pblk g (q ▸ e))
  ·exact .inr (.inr ⟨q g e,(ho.lt g e).2⟩)
 have hfb:∀ b off,fa=some ⟨b,off,none⟩->Z b∧b≠P∧pv.ownBlock≠some b∧nv.ownBlock≠some b∧∃ cs,w.heap[b]?=some (.cells cs 2):=fun b off e=>by
  obtain⟨h1,h2,cs,h3⟩:=h.fblk b off e
  refine⟨h1,fun e3=>?_,own_ne_ty h.prow h3 (by decide),h2,cs,h3⟩
  rw[e3,h.box] at h3
  simp at h3
 have hpg:∀ {Y:Nat->Prop} {cs:List Value} {c:PgC},(∀ g,Y g->g<w.heap.size)->PgIs (fun g=>¬ Y g) w tx cs c->PgIs (fun g=>¬ Y g) (w'.setCell ⟨P,3,none⟩ v') tx cs c:=fun {Y cs c} hY q=>by
  refine q.keepZ (fun g hg=>?_)
  by_cases e2:g=P
  ·exact .inl (e2 ▸ nk_blk h.box (by decide) (by decide))
  ·by_cases e3:pv.ownBlock=some g
   ·exact .inl (nk_row h.prow e3 (by decide) (by decide))
   ·exact .inr (hk g (hY g hg) e2 e3)
 have hkb:∀ {Y:Nat->Prop} {cs:List Value} {c:PgC} {g:Nat},PgIs (fun g=>¬ Y g) w tx cs c->KB cs g->Y g:=fun {Y cs c g} q hkb=>by
  obtain⟨ka,kc,ea,ec,rfl,_,_,h3,h4⟩:=q
  rcases hkb with e | e
  ·exact Classical.not_not.1 (h3 g e)
  ·exact Classical.not_not.1 (h4 g e)
 have hat:∀ (i:Nat) x,(css++[cs])[i]?=some x->(i<css.length∧css[i]?=some x)∨(i=css.length∧x=cs):=fun i x hi=>by
  by_cases hia:i<css.length
  ·rw[List.getElem?_append_left hia] at hi
   exact .inl ⟨hia,hi⟩
  ·rw[List.getElem?_append_right (by omega)] at hi
   have h0:i - css.length=0:=by
    have:=(List.getElem?_eq_some_iff.1 hi).1
    simp at this
    omega
   rw[h0] at hi
   simp at hi
   exact .inr ⟨by omega,hi.symm⟩
 refine⟨⟨.inl h.zp,by rw[heap_setT hbP];simp,h.free.keepB hs (fun b off e _=>hk b (h.lt b (hfb b off e).1) (hfb b off e).2.1 (hfb b off e).2.2.1),fun b off e=>⟨.inl (hfb b off e).1,(hfb b off e).2.2.2.1,?_⟩,?_,fun g e=>(hv g e).1,?_,fun g e=>.inl (h.nblk g e),by simp[h.cl],fun j x hj=>?_,fun i j ci cj g hi hj k1 k2=>?_,fun g hg=>?_⟩,?_⟩
 ·obtain⟨cs,q⟩:=(hfb b off e).2.2.2.2
  exact⟨cs,(hk b (h.lt b (hfb b off e).1) (hfb b off e).2.1 (hfb b off e).2.2.1).trans q⟩
 ·have:=owns_keepG (w':=w'.setCell ⟨P,3,none⟩ v') ho (fun g e=>F.block g (ho.lt g e).2 (hv g e).2)
  simpa using this
 ·exact owns_keepG h.nrow (fun g e=>hk g (h.lt g (h.nblk g e)) (fun e2=>own_ne_ty h.nrow h.box (by decide) (e2 ▸ e)) (rows_neI h.nrow h.prow (by decide) e))
 ·rcases hat j x hj with ⟨h1,h2⟩ | ⟨h1,rfl⟩
  ·obtain⟨c,e,q⟩:=h.pgs j x h2
   exact⟨c,by rw[List.getElem?_append_left (List.getElem?_eq_some_iff.1 e).1,e],PgIs.less (hpg h.lt q) (fun g e _ e2=>e (.inl e2))⟩
  ·exact⟨c,by rw[h1,h.cl];simp,PgIs.less (hpg (fun g hg=>(hR g hg).1) hc) (fun g e _ e2=>e (.inr (.inl e2)))⟩
 ·rcases hat i ci hi with ⟨h1,h2⟩ | ⟨h1,rfl⟩<;>rcases hat j cj hj with ⟨h3,h4⟩ | ⟨h3,rfl⟩
  ·exact h.ap i j ci cj g h2 h4 k1 k2
  ·obtain⟨_,_,q⟩:=h.pgs i ci h2
   exact absurd (hkb q k1) (hR g (hkb hc k2)).2
  ·obtain⟨_,_,q⟩:=h.pgs j cj h4
   exact absurd (hkb q k2) (hR g (hkb hc k1)).2
  ·omega
 ·rw[hs2]
  rcases hg with q | q | q
  ·exact Nat.lt_of_lt_of_le (h.lt g q) G.size
  ·exact Nat.lt_of_lt_of_le (hR g q).1 G.size
  ·exact q.2
 ·exact (G.weak (fun g e=>h.pblk g e)).trans (F.weak (fun g e=>e ▸ h.zp))
end Go.Proofs.YtkhglgalbifcnaaGreat
