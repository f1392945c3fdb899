import Derived.Test.YtkhglgalbifcnaaGreatGAA
import Derived.Test.YtkhglgalbifcnaaGreatGBA
import Derived.Test.YtkhglgalbifcnaaGreatGBC
import Derived.Deep.LoopGhost
import Derived.Deep.DeepCutAuto
namespace Go.Proofs.YtkhglgalbifcnaaGreat
open Go.RowKit
set_option linter.unusedVariables false
set_option linter.unusedSimpArgs false
set_option maxRecDepth 100000
theorem info_PageP:(Tryz.prog.info? 93).map (fun i=>(i.zero,i.size,i.bytes))=some (some (.agg #[.int .i64 0,.int .i64 0,.int .i64 0,.int .i64 0,.int .i64 0,.slice none 0 0,.slice none 0 0,.int .i64 0,.string ByteArray.empty]),9,112):=by kernel_rfl
theorem cell_one_newP (w:World) (a:Value) (t:TypeId):∀ j u,[a][j]?=some u->(w.alloc (.cells #[a] t)).cell? ((⟨w.heap.size,0,none⟩:Addr).add j)=some u:=by
 intro j u h
 match j,h with
 | 0,h=>simpa[Addr.add] using h
theorem cell_nine_newP (w:World) (a b c d e f g x i:Value) (t:TypeId):∀ j u,[a,b,c,d,e,f,g,x,i][j]?=some u->(w.alloc (.cells #[a,b,c,d,e,f,g,x,i] t)).cell? ((⟨w.heap.size,0,none⟩:Addr).add j)=some u:=by
 intro j u h
 match j,h with
 | 0,h=>simpa[Addr.add] using h
 | 1,h=>simpa[Addr.add] using h
 | 2,h=>simpa[Addr.add] using h
 | 3,h=>simpa[Addr.add] using h
 | 4,h=>simpa[Addr.add] using h
 | 5,h=>simpa[Addr.add] using h
 | 6,h=>simpa[Addr.add] using h
 | 7,h=>simpa[Addr.add] using h
 | 8,h=>simpa[Addr.add] using h
theorem box9P {w:World} {N:Nat} {v0 v1 v2 v3 v4 v5 v6 v7 v8:Value} {t:TypeId} (h:w.heap[N]?=some (.cells #[v0,v1,v2,v3,v4,v5,v6,v7,v8] t)):w.cell? ⟨N,0,none⟩=some v0∧w.cell? ⟨N,1,none⟩=some v1∧w.cell? ⟨N,2,none⟩=some v2∧w.cell? ⟨N,3,none⟩=some v3∧w.cell? ⟨N,4,none⟩=some v4∧w.cell? ⟨N,5,none⟩=some v5∧w.cell? ⟨N,6,none⟩=some v6∧w.cell? ⟨N,7,none⟩=some v7∧w.cell? ⟨N,8,none⟩=some v8:=by
 simp[World.cell?,h]
theorem take_snocP2:∀ (n:Nat) (s:PSt),takeP (n+1) s=((takeP n s).1++[(nxtP (takeP n s).2).1],(nxtP (takeP n s).2).2)
 | 0,s=>by simp[takeP]
 | n+1,s=>by
  have h:=take_snocP2 n (nxtP s).2
  rw[takeP,h]
  simp[takeP]
theorem nxt_log (s:PSt):(nxtP s).2.log=s.log:=by
 unfold nxtP
 split<;>rfl
theorem take_log:∀ (n:Nat) (s:PSt),(takeP n s).2.log=s.log
 | 0,s=>rfl
 | n+1,s=>by rw[takeP];exact (take_log n _).trans (nxt_log s)
theorem ints_getP (l:List Int) (j:Nat) (h:j<l.length):(rowsOf intCells l)[j]?=some (.int .i64 (l.getD j 0)):=by
 have:=rowsOf_get (cs:=intCells) (m:=1) (fun _=>rfl) 0 l j 0 h (by omega)
 simpa[intCells] using this
theorem ZP.next {P U N M:Nat} {pv nv pv2 nv2 pv3 nv3:Value} (h:∀ g,ZP P U pv2 nv2 g->ZP P U pv nv g∨N<=g) (hp:∀ g,pv3.ownBlock=some g->pv2.ownBlock=some g∨M<=g) (hn:∀ g,nv3.ownBlock=some g->nv2.ownBlock=some g∨M<=g) (hM:N<=M):∀ g,ZP P U pv3 nv3 g->ZP P U pv nv g∨N<=g:=by
 intro g hg
 rcases hg with e | e | e | e
 ·exact .inl (.inl e)
 ·exact .inl (.inr (.inl e))
 ·rcases hp g e with e | e
  ·exact h g (.inr (.inr (.inl e)))
  ·exact .inr (Nat.le_trans hM e)
 ·rcases hn g e with e | e
  ·exact h g (.inr (.inr (.inr e)))
  ·exact .inr (Nat.le_trans hM e)
theorem Fr.up3 {S T:Nat->Prop} {a b c:World} (h:Fr S a b) (k:Fr T b c) (hT:∀ g,T g->S g∨a.heap.size<=g):Fr S a c :=
 ⟨k.1.trans h.1,k.2.trans h.2,k.3.trans h.3,Nat.le_trans h.size k.size,fun g hg hS=>(k.block g (Nat.lt_of_lt_of_le hg h.size) (fun e=>(hT g e).elim hS (fun e=>by omega))).trans (h.block g hg hS)⟩
theorem Fr.zp {P U N:Nat} {pv nv pv2 nv2:Value} {w a b:World} {S:Nat->Prop} (h:Fr (ZP P U pv nv) w a) (hz:∀ g,ZP P U pv2 nv2 g->ZP P U pv nv g∨w.heap.size<=g) (hf:Fr S a b) (hS:∀ g,S g->ZP P U pv2 nv2 g∨w.heap.size<=g):Fr (ZP P U pv nv) w b :=
 h.up3 hf (fun g e=>by
  rcases hS g e with e | e
  ·exact hz g e
  ·exact .inr e)
set_option maxHeartbeats 8000000 in
theorem l4Value_any (Xs:Nat->Prop) (P U a b:Nat) (pv nv:Value) (tx:Int) (s:PSt) (w:World) (h:PAt Xs w P U pv a nv b tx s) (hal0:a=s.log.length) (hbl0:b=s.log.length) (v:ByteArray) (hv0:0<v.size) (hv:v.size<=400) (ha:a<=1000000) (hb:b<=1000000) :
  Calls Tryz.prog 45 #[.pointer (some ⟨P,0,none⟩),.string v] w fun e w'=>∃ pv' nv',e=.returned (.int .i64 (valP v s).1)∧PAt Xs w' P U pv' (a+(v.size+95) / 96) nv' (b+(v.size+95) / 96) tx (valP v s).2∧Fr (ZP P U pv nv) w w'∧∀ g,ZP P U pv' nv' g->ZP P U pv nv g∨w.heap.size<=g:=by
 obtain⟨N,hN⟩:∃ N,w.heap.size=N:=⟨_,rfl⟩
 obtain⟨J,hJ⟩:∃ J,(v.size+95) / 96=J:=⟨_,rfl⟩
 have HJ:Hid ((v.size+95) / 96=J):=hJ
 have hJ0:0<J:=by omega
 have hJ5:J<=5:=by omega
 obtain⟨n,hn⟩:∃ n,v.size=n:=⟨_,rfl⟩
 have HNV:Hid (v.size=n):=hn
 have hJn:96*J<n+96∧n<=96*J:=by omega
 obtain⟨hJa,hJb⟩:=hJn
 have hn4:n<=400:=by omega
 obtain⟨ip,hip,hp0,hp1,hp2⟩:=info_parts info_PageP
 obtain⟨ii,hii,hj0,hj1,hj2⟩:=info_parts info_int64
 have HAL:Hid (a=s.log.length∧b=s.log.length):=⟨hal0,hbl0⟩
 have HP0:Hid (PAt Xs w P U pv a nv b tx s):=h
 have lP0:=h.lt (.inl rfl)
 have lU0:=h.lt (.inr (.inl rfl))
 have b0:Below w.heap.size w (w.alloc (.cells #[] 2)):=(Below.refl _ _).alloc (Nat.le_refl _) _
 have o0:=emptyE w 2 1 N (by omega)
 have HP1:=h.below b0
 have HF1:Fr (ZP P U pv nv) w _:=Fr.of_below b0
 rw[hJ]
 clear h hJ hal0 hbl0
 go_enter Tryz.func45,Tryz.ntmps45
 go_wp2_with fail
 go_loopw [5,6] (fun o k wr=>∃ (j:Nat) (xa:Option Addr) (xc:Nat),j<=J∧k=.int .i64 ((96*j:Nat):Int)∧o=.slice xa j xc∧Hid (wr.ownsRow N 2 1 (.slice xa j xc) j (rowsOf intCells (takeP j s).1))∧Hid (PAt Xs wr P U pv a nv b tx (takeP j s).2)∧Hid (Fr (ZP P U pv nv) w wr)) (fun _ k _=>96*J - (intOf k).toNat)
 case atStart=>exact⟨0,some ⟨N,0,none⟩,0,Nat.zero_le _,rfl,rfl,by show World.ownsRow _ _ _ _ _ _ _;rw[hN] at o0;exact o0,HP1,HF1⟩
 case round =>
  clear o0 HP1 HF1 b0
  obtain⟨j,xa,xc,hj,rfl,rfl,HO,HP,HF⟩:=hrel
  have hsr:=HF.out.size
  have lPr:=HP.out.lt (.inl rfl)
  by_cases hlt:96*j<n
  ·have hnx:=l4Next_any Xs P U a b pv nv tx (takeP j s).2 wr HP.out
   obtain⟨x,hx⟩:∃ x,(nxtP (takeP j s).2).1=x:=⟨_,rfl⟩
   have HX:Hid ((nxtP (takeP j s).2).1=x):=hx
   rw[hx] at hnx
   clear hx
   go_wp2_with fail
   refine hnx.mono ?_
   rintro e w1 ⟨rfl,hP1,hF1⟩
   have HP1:Hid (PAt Xs w1 P U pv a nv b tx (takeP (j+1) s).2):=by show PAt _ _ _ _ _ _ _ _ _ _;rw[take_snocP2];exact hP1
   have hO1:=owns_fr HO.out hF1 (fun g e e'=>by have:=(HO.out.lt g e).1;rcases e' with rfl | rfl<;>omega)
   have HF1:Hid (Fr (ZP P U pv nv) w w1):=HF.out.trans (hF1.weak (fun g e=>e.elim .inl (fun e=>.inr (.inl e))))
   have hs1:=HF1.out.size
   have HO1:Hid (w1.ownsRow N 2 1 (.slice xa j xc) j (rowsOf intCells (takeP j s).1)):=hO1
   clear hP1 hF1 hnx HP HO HF hO1
   go_wp2_with (at_builtin;refine wpList_append_ownD _ rfl _ _ 25 rfl N 2 ii _ 1 8 Tryz.underlying25 hii hj0 hj1 hj2 rfl (by decide) (.slice xa j xc) j _ rfl (owns_below HO1.out ((Below.refl _ _).alloc (Nat.le_refl _) (.cells #[.int .i64 x] 2))) ⟨w1.heap.size,0,none⟩ 1 1 [.int .i64 x] rfl rfl (cell_one_newP w1 (.int .i64 x) 2) (by simp[Value.oneCell']) (by unfold maxLen;omega) (by omega) (by simp;omega) ?_;intro v' w6 h1 h2 h3)
   obtain⟨a',c',rfl⟩:=own_shape h1
   have hB:Fr (fun g=>(Value.slice xa j xc).ownBlock=some g) w1 w6:=(Fr.of_below ((Below.refl _ _).alloc (Nat.le_refl _) _)).trans (Fr.of_grown h2 (fun g e=>e))
   have hl1:∀ g,(Value.slice xa j xc).ownBlock=some g->N<=g:=fun g e=>(HO1.out.lt g e).1
   have HP6:Hid (PAt Xs w6 P U pv a nv b tx (takeP (j+1) s).2):=HP1.out.fr hB (fun g hg e=>by have:=hl1 g e;have:=HP0.out.lt hg;omega) (fun g e=>.inr (nk_row HO1.out e (by decide) (by decide)))
   have HF6:Hid (Fr (ZP P U pv nv) w w6):=HF1.out.up2 hB (fun g e=>by have:=hl1 g e;omega)
   have HO6:Hid (w6.ownsRow N 2 1 (.slice a' (j+1) c') (j+1) (rowsOf intCells (takeP (j+1) s).1)):=by show World.ownsRow _ _ _ _ _ _ _;rw[take_snocP2,rowsOf_append,HX.out];exact h1
   clear h1 h2 h3 hB hl1 HP1 HF1 HO1
   go_roundw
   case rel=>exact⟨j+1,a',c',by omega,by go_num,rfl,HO6,HP6,HF6⟩
   case measure=>simp[intOf];omega
  ·obtain rfl:j=J:=by omega
   have hgx:=owns_someD HO.out hJ0
   obtain⟨G,rfl⟩:=hgx
   have HL:Hid ((takeP j s).1.length=j):=take_len j s
   obtain⟨ns,hns⟩:∃ ns,(takeP j s).1=ns:=⟨_,rfl⟩
   obtain⟨s2,hs2⟩:∃ s2,{ (takeP j s).2 with log:=(takeP j s).2.log++ovPages v ns }=s2:=⟨_,rfl⟩
   have HS2:Hid ({ (takeP j s).2 with log:=(takeP j s).2.log++ovPages v ns }=s2∧(takeP j s).1=ns):=⟨hs2,hns⟩
   rw[hns] at HO HL
   have HPL:Hid (PAt Xs wr P U pv a nv b tx s2):=by show PAt _ _ _ _ _ _ _ _ _ _;rw[<-hs2];exact HP.out.log _
   have HLG:Hid (∀ i,i<j->s2.log[a+i]?=some (ns.getD i 0,.over (if v.size<=(i+1)*96 then 0 else ns.getD (i+1) 0) (v.extract (i*96) (min ((i+1)*96) v.size)))∧s2.log[b+i]?=s2.log[a+i]?):=fun i hi=>by
    rw[HAL.out.1,HAL.out.2]
    refine⟨?_,rfl⟩
    rw[<-hs2]
    show ((takeP j s).2.log++ovPages v ns)[s.log.length+i]?=_
    rw[take_log,List.getElem?_append_right (by omega),Nat.add_sub_cancel_left]
    have h9:i<ns.length:=by rw[HL.out];exact hi
    simp[ovPages,List.getElem?_map,List.getElem?_range,h9]
   clear hs2 hns HP
   have HP:=HPL
   clear HPL
   have hGl:=HO.out.lt G rfl
   go_wp2_with fail
   go_loopg [8] j (fun gk k wq=>∃ (i:Nat) (pa:Option Addr) (pc:Nat) (na:Option Addr) (nc:Nat),i<=j∧gk=j - i∧k=.int .i64 (i:Int)∧Hid (wq.ownsRow N 2 1 (.slice (some ⟨G,0,none⟩) j xc) j (rowsOf intCells ns))∧Hid (PAt Xs wq P U (.slice pa (a+i) pc) (a+i) (.slice na (b+i) nc) (b+i) tx s2)∧Hid (Fr (ZP P U pv nv) w wq)∧Hid (∀ g,ZP P U (.slice pa (a+i) pc) (.slice na (b+i) nc) g->ZP P U pv nv g∨N<=g)∧Hid ((Value.slice na (b+i) nc).ownBlock≠some G))
   case atStart =>
    obtain⟨xs1,hp⟩:=HP.out.prow
    obtain⟨xs2,hnn⟩:=HP.out.nrow
    obtain⟨pa,pc,rfl⟩:=own_shape hp
    obtain⟨na,nc,rfl⟩:=own_shape hnn
    exact⟨0,pa,pc,na,nc,Nat.zero_le _,rfl,rfl,HO,HP,HF,fun g e=>.inl e,fun e=>by have:=HP0.out.lt (.inr (.inr (.inr e)));omega⟩
   case round =>
    clear HO HP HF hsr lPr hGl
    obtain⟨i,pa,pc,na,nc,hi,rfl,rfl,HO,HP,HF,HZ,HG⟩:=hrel
    have hGl:=HO.out.lt G rfl
    have hsr:=HF.out.size
    have lPr:=HP.out.lt (.inl rfl)
    have hOc:=fun q hq=>HO.out.cellAt q hq
    by_cases hli:i<j
    ·obtain⟨q0,q1,q2,q3,q4⟩:=box5P HP.out.box
     obtain⟨A,hA⟩:∃ A,a+i=A:=⟨_,rfl⟩
     obtain⟨Bn,hBn⟩:∃ Bn,b+i=Bn:=⟨_,rfl⟩
     have HAB:Hid (a+i=A∧b+i=Bn):=⟨hA,hBn⟩
     have HLI:=HLG.out i hli
     rw[hA,hBn] at HLI
     have hA6:A<=1000100:=by omega
     have hB6:Bn<=1000100:=by omega
     rw[hA,hBn] at HP HZ
     rw[hBn] at HG
     rw[hA] at q2
     rw[hBn] at q3
     clear hA hBn
     have HOr:Hid (wr.ownsRow N 2 1 (.slice (some ⟨G,0,none⟩) j xc) j (rowsOf intCells ns)):=HO.out
     have HPr:Hid (PAt Xs wr P U (.slice pa A pc) A (.slice na Bn nc) Bn tx s2):=HP.out
     obtain⟨y,hy⟩:∃ y,ns.getD i 0=y:=⟨_,rfl⟩
     have HY:Hid (∀ W:World,W.ownsRow N 2 1 (.slice (some ⟨G,0,none⟩) j xc) j (rowsOf intCells ns)->W.cell? ⟨G,i,none⟩=some (.int .i64 y)):=fun W hW=>by
      have:=hW.cellAt i (by omega)
      rw[this,ints_getP ns i (by rw[HL.out];omega),hy]
     have HLI2:Hid (s2.log[A]?=some (y,.over (if n<=(i+1)*96 then 0 else ns.getD (i+1) 0) (v.extract (i*96) (min ((i+1)*96) n)))∧s2.log[Bn]?=s2.log[A]?):=by
      rw[hy,HNV.out] at HLI
      exact HLI
     clear hy HO HP HLI
     go_upto_if 41 with fail
     go_cut [10] (fun e wx=>∃ (en:Nat) (nx:Int),e=.int .i64 (en:Int)∧i*96<=en∧en<=n∧Hid (en=min ((i+1)*96) n∧nx=if n<=(i+1)*96 then 0 else ns.getD (i+1) 0)∧wx=wr.alloc (.cells #[.int .i64 4,.int .i64 tx,.int .i64 0,.int .i64 0,.int .i64 0,.slice none 0 0,.slice none 0 0,.int .i64 nx,.string ⟨#[]⟩] 93))
     case first =>
      by_cases he:n<=(i+1)*96
      ·go_wp2_with fail
       go_meet
       exact⟨n,0,rfl,by omega,by omega,⟨by omega,by rw[if_pos he]⟩,rfl⟩
      ·have d0:=hOc (i+1) (by omega)
       rw[ints_getP ns (i+1) (by rw[HL.out];omega)] at d0
       go_wp2_with fail
       go_meet
       exact⟨(i+1)*96,_,by go_num,by omega,by omega,⟨by omega,by rw[if_neg he];rfl⟩,rfl⟩
     case rest =>
      obtain⟨en,nx,rfl,hen1,hen2,HEN,rfl⟩:=hcut
      have HLI3:Hid (s2.log[A]?=some (y,.over nx (v.extract (i*96) en))∧s2.log[Bn]?=s2.log[A]?):=by
       show _∧_
       rw[HEN.out.1,HEN.out.2]
       exact HLI2.out
      go_upto_region 16 with fail
      generalize v.extract (i*96) en=dd at HLI3 ⊢
      obtain⟨pc9,hpc9⟩:∃ pc9,PgC.over nx dd=pc9:=⟨_,rfl⟩
      have HPC9:Hid (PgC.over nx dd=pc9):=hpc9
      rw[hpc9] at HLI3
      obtain⟨pm9,hpm9⟩:∃ pm9,pm9=y:=⟨_,rfl⟩
      have HPM9:Hid (pm9=y):=hpm9
      clear hpc9 hpm9 HEN HLI2
      clear hOc
      have hal:=(Below.refl wr.heap.size wr).alloc (Nat.le_refl _) (.cells #[.int .i64 4,.int .i64 tx,.int .i64 0,.int .i64 0,.int .i64 0,.slice none 0 0,.slice none 0 0,.int .i64 nx,.string dd] 93)
      have kK:=heap_alloc_new wr (.cells #[.int .i64 4,.int .i64 tx,.int .i64 0,.int .i64 0,.int .i64 0,.slice none 0 0,.slice none 0 0,.int .i64 nx,.string dd] 93)
      generalize wr.alloc (.cells #[.int .i64 4,.int .i64 tx,.int .i64 0,.int .i64 0,.int .i64 0,.slice none 0 0,.slice none 0 0,.int .i64 nx,.string dd] 93)=W at hal kK ⊢
      have lKW:wr.heap.size<W.heap.size:=(Array.getElem?_eq_some_iff.1 kK).1
      have HNW:Hid (s2.log[A]?=some (pm9,pc9)∧PgIs Xs W tx [.int .i64 4,.int .i64 tx,.int .i64 0,.int .i64 0,.int .i64 0,.slice none 0 0,.slice none 0 0,.int .i64 nx,.string dd] pc9):=⟨by rw[HPM9.out];exact HLI3.out.1,by rw[<-HPC9.out];exact PgIs.over _ _⟩
      have HPW:Hid (PAt Xs W P U (.slice pa A pc) A (.slice na Bn nc) Bn tx s2):=HPr.out.below hal
      have HOW0:Hid (W.ownsRow N 2 1 (.slice (some ⟨G,0,none⟩) j xc) j (rowsOf intCells ns)):=owns_below HOr.out hal
      have HFW:Hid (Fr (ZP P U pv nv) w W):=HF.out.trans (Fr.of_below hal)
      clear hal q0 q1 q2 q3 q4 HPr HOr
      go_cut [] (fun wx=>∃ (pa2:Option Addr) (pc2:Nat),Hid (PAt Xs wx P U (.slice pa2 (A+1) pc2) (A+1) (.slice na Bn nc) Bn tx s2∧Fr (fun g=>g=P∨(Value.slice pa A pc).ownBlock=some g) W wx∧∀ g,(Value.slice pa2 (A+1) pc2).ownBlock=some g->(Value.slice pa A pc).ownBlock=some g∨W.heap.size<=g))
      case first =>
       have bV0:=(Below.refl W.heap.size W).drew
       refine wp_region_noPanic ?_
       refine wp_region_held_drew (S:=(fun _:World=>True)) (by kernel_rfl) (trivial) (fun hHeld=>?_)
       clear hHeld
       generalize W.drew=V at bV0 ⊢
       have hHeld:=trivial
       have HPV:Hid (PAt Xs V P U (.slice pa A pc) A (.slice na Bn nc) Bn tx s2):=HPW.out.below bV0
       have HFV:Hid (Fr (fun g=>g=P∨(Value.slice pa A pc).ownBlock=some g) W V):=Fr.of_below bV0
       obtain⟨css,hrV,hcl,hct⟩:=HPV.out.pgs
       have HCS:Hid (css.length=A∧∀ (i:Nat) cs,css[i]?=some cs->∃ n c,s2.log[i]?=some (n,c)∧PgIs Xs V tx cs c):=⟨hcl,hct⟩
       have HNC:Hid (PgIs Xs V tx [.int .i64 4,.int .i64 tx,.int .i64 0,.int .i64 0,.int .i64 0,.slice none 0 0,.slice none 0 0,.int .i64 nx,.string dd] pc9):=HNW.out.2.below bV0
       have HNM:Hid (s2.log[A]?=some (pm9,pc9)):=HNW.out.1
       clear hcl hct
       have HRP:Hid (V.ownsRow 0 93 9 (.slice pa A pc) A css.flatten):=hrV
       clear hrV
       obtain⟨q0,q1,q2,q3,q4⟩:=box5P HPV.out.box
       have lP:P<V.heap.size:=HPV.out.lt (.inl rfl)
       have kV:V.heap[wr.heap.size]?=some (.cells #[.int .i64 4,.int .i64 tx,.int .i64 0,.int .i64 0,.int .i64 0,.slice none 0 0,.slice none 0 0,.int .i64 nx,.string dd] 93):=(bV0.block wr.heap.size lKW).trans kK
       obtain⟨e0,e1,e2,e3,e4,e5,e6,e7,e8⟩:=box9P kV
       have lKV:wr.heap.size<V.heap.size:=(Array.getElem?_eq_some_iff.1 kV).1
       clear bV0
       refine tY 0 (.pointer (some ⟨P,0,none⟩)) .z (by kernel_rfl) (by rfl) ?_ ‹_› ?_
       ·intro wq hSw;go_simp
       refine tY 1 (.pointer (some ⟨P,0,none⟩)) (.s .z) (by kernel_rfl) (by rfl) ?_ ‹_› ?_
       ·intro wq hSw;go_simp
       refine tY 2 (.pointer (some ⟨P,0,none⟩)) (.s (.s .z)) (by kernel_rfl) (by rfl) ?_ ‹_› ?_
       ·intro wq hSw;go_simp
       refine tY 3 (.pointer (some ⟨P,2,none⟩)) (.s (.s (.s .z))) (by kernel_rfl) (by rfl) ?_ ‹_› ?_
       ·intro wq hSw;go_simp
       try simp only[Act.put,q1,q2,q3]
       refine wpAnyH_ready (rs:=[4,5]) (by kernel_rfl) (by simp) ?_
       refine rdA (.s (.s (.s (.s .z)))) (fun K hK=>?_) ?_
       rotate_left 1
       refine rdA (.f .z) (fun K hK=>?_) ?_
       rotate_left 1
       exact AllReadyH.nil
       ·go_simp
        refine hK.out _ _ (trivial) (fun hHeld=>?_)
        clear hK K
        try simp only[Act.put,q1,q2,q3]
        refine wpAnyH_ready (rs:=[5]) (by kernel_rfl) (by simp) ?_
        refine rdA (.f .z) (fun K hK=>?_) AllReadyH.nil
        go_simp
        refine hK.out _ _ (trivial) (fun hHeld=>?_)
        clear hK K
        try simp only[Act.put,q1,q2,q3]
        refine wpAnyH_ready (rs:=[6]) (by kernel_rfl) (by simp) ?_
        refine rdA (.f (.s .z)) (fun K hK=>?_) AllReadyH.nil
        go_simp
        have hal2:=(Below.refl V.heap.size V).alloc (Nat.le_refl _) (.cells #[.int .i64 4,.int .i64 tx,.int .i64 0,.int .i64 0,.int .i64 0,.slice none 0 0,.slice none 0 0,.int .i64 nx,.string dd] 93)
        have HPA:Hid (PAt Xs (V.alloc (.cells #[.int .i64 4,.int .i64 tx,.int .i64 0,.int .i64 0,.int .i64 0,.slice none 0 0,.slice none 0 0,.int .i64 nx,.string dd] 93)) P U (.slice pa A pc) A (.slice na Bn nc) Bn tx s2):=HPV.out.below hal2
        obtain⟨z0,z1,z2,z3,z4⟩:=box5P HPA.out.box
        have lPA:P<(V.alloc (.cells #[.int .i64 4,.int .i64 tx,.int .i64 0,.int .i64 0,.int .i64 0,.slice none 0 0,.slice none 0 0,.int .i64 nx,.string dd] 93)).heap.size:=HPA.out.lt (.inl rfl)
        refine hK.out _ _ (trivial) (fun hHeld=>?_)
        clear hK K
        try simp only[Act.put,q1,q2,q3]
        refine wpAnyH_ready (rs:=[7]) (by kernel_rfl) (by simp) ?_
        refine rdA (.f (.s (.s .z))) (fun K hK=>?_) AllReadyH.nil
        have hrow:=owns_below HRP.out hal2
        refine step_append_T rfl _ _ 30 rfl 0 93 ip _ 9 112 Tryz.underlying30 hip hp0 hp1 hp2 rfl (by decide) (.slice pa A pc) A css.flatten (by simp[Act.eval]) hrow ⟨V.heap.size,0,none⟩ 1 1 [.int .i64 4,.int .i64 tx,.int .i64 0,.int .i64 0,.int .i64 0,.slice none 0 0,.slice none 0 0,.int .i64 nx,.string dd] (by simp[Act.eval]) rfl (cell_nine_newP _ _ _ _ _ _ _ _ _ _ _) (by simp[Value.oneCell']) (by unfold maxLen;omega) (by omega) (Nat.zero_le _) ?_
        intro u7 w7 hown7 hgr7 hlies7
        obtain⟨g7,c7',rfl⟩:=own_shape hown7
        have hb7:w7.heap[P]?=_:=(hgr7.block P lPA (fun e=>HPA.out.apart.1 e.symm)).trans HPA.out.box
        obtain⟨t0,t1,t2,t3,t4⟩:=box5P hb7
        have f7:=thawT hb7
        have l7:P<w7.heap.size:=(Array.getElem?_eq_some_iff.1 hb7).1
        have HM:Hid (PAt Xs (w7.setCell ⟨P,2,none⟩ (.slice g7 (A+1) c7')) P U (.slice g7 (A+1) c7') (A+1) (.slice na Bn nc) Bn tx s2∧Fr (fun g=>g=P∨(Value.slice pa A pc).ownBlock=some g) W (w7.setCell ⟨P,2,none⟩ (.slice g7 (A+1) c7'))∧∀ g,(Value.slice g7 (A+1) c7').ownBlock=some g->(Value.slice pa A pc).ownBlock=some g∨W.heap.size<=g):=by
         refine⟨HPA.out.pushP (n:=0) HCS.out.1 (pgs_fr (S:=fun _=>False) HCS.out.2 (Fr.of_below hal2) (fun _ e=>e.elim)) HNM.out (HNC.out.below hal2) hown7 hgr7,(HFV.out.trans ((Fr.of_below hal2).trans (Fr.of_grown hgr7 (fun g e=>.inr e)))).trans ((fr_setT w7 P 2 _).weak (fun g e=>.inl e)),fun g e=>?_⟩
         rcases hlies7 with h9 | h9
         ·rw[h9] at e;exact .inl e
         ·exact .inr (Nat.le_trans HFV.out.size (Nat.le_trans hal2.size (h9 g e)))
        clear hown7 hgr7 hlies7 hb7 hrow HPA hal2 z0 z1 z2 z3 z4 lPA
        refine hK.out _ _ (trivial) (fun hHeld=>?_)
        clear hK K
        refine tY 8 (.pointer (some ⟨P,0,none⟩)) (.f (.s (.s (.s .z)))) (by kernel_rfl) (by rfl) ?_ ‹_› ?_
        ·intro wq hSw;go_simp
        refine tY 9 (.pointer (some ⟨P,2,none⟩)) (.f (.s (.s (.s (.s .z))))) (by kernel_rfl) (by rfl) ?_ ‹_› ?_
        ·intro wq hSw;go_simp
        try simp only[Act.put,q1,q2,q3]
        refine wpAnyH_ready (rs:=[10]) (by kernel_rfl) (by simp) ?_
        refine rdA (.t .z) (fun K hK=>?_) AllReadyH.nil
        go_simp
        refine hK.out _ _ (trivial) (fun hHeld=>?_)
        clear hK K
        try simp only[Act.put,q1,q2,q3]
        refine wpAnyH_done (by kernel_rfl) ?_ _
        refine NoPanic.normal ?_
        clear hHeld t0 t1 t2 t3 t4 f7 l7
        go_wp2_with fail
        go_meet
        exact⟨g7,c7',HM⟩
       ·go_simp
        refine hK.out _ _ (trivial) (fun hHeld=>?_)
        clear hK K
        try simp only[Act.put,q1,q2,q3]
        refine wpAnyH_ready (rs:=[4,6]) (by kernel_rfl) (by simp) ?_
        refine rdA (.s (.s (.s (.s .z)))) (fun K hK=>?_) ?_
        rotate_left 1
        refine rdA (.f (.s .z)) (fun K hK=>?_) ?_
        rotate_left 1
        exact AllReadyH.nil
        ·go_simp
         refine hK.out _ _ (trivial) (fun hHeld=>?_)
         clear hK K
         try simp only[Act.put,q1,q2,q3]
         refine wpAnyH_ready (rs:=[6]) (by kernel_rfl) (by simp) ?_
         refine rdA (.f (.s .z)) (fun K hK=>?_) AllReadyH.nil
         go_simp
         have hal2:=(Below.refl V.heap.size V).alloc (Nat.le_refl _) (.cells #[.int .i64 4,.int .i64 tx,.int .i64 0,.int .i64 0,.int .i64 0,.slice none 0 0,.slice none 0 0,.int .i64 nx,.string dd] 93)
         have HPA:Hid (PAt Xs (V.alloc (.cells #[.int .i64 4,.int .i64 tx,.int .i64 0,.int .i64 0,.int .i64 0,.slice none 0 0,.slice none 0 0,.int .i64 nx,.string dd] 93)) P U (.slice pa A pc) A (.slice na Bn nc) Bn tx s2):=HPV.out.below hal2
         obtain⟨z0,z1,z2,z3,z4⟩:=box5P HPA.out.box
         have lPA:P<(V.alloc (.cells #[.int .i64 4,.int .i64 tx,.int .i64 0,.int .i64 0,.int .i64 0,.slice none 0 0,.slice none 0 0,.int .i64 nx,.string dd] 93)).heap.size:=HPA.out.lt (.inl rfl)
         refine hK.out _ _ (trivial) (fun hHeld=>?_)
         clear hK K
         try simp only[Act.put,q1,q2,q3]
         refine wpAnyH_ready (rs:=[7]) (by kernel_rfl) (by simp) ?_
         refine rdA (.f (.s (.s .z))) (fun K hK=>?_) AllReadyH.nil
         have hrow:=owns_below HRP.out hal2
         refine step_append_T rfl _ _ 30 rfl 0 93 ip _ 9 112 Tryz.underlying30 hip hp0 hp1 hp2 rfl (by decide) (.slice pa A pc) A css.flatten (by simp[Act.eval]) hrow ⟨V.heap.size,0,none⟩ 1 1 [.int .i64 4,.int .i64 tx,.int .i64 0,.int .i64 0,.int .i64 0,.slice none 0 0,.slice none 0 0,.int .i64 nx,.string dd] (by simp[Act.eval]) rfl (cell_nine_newP _ _ _ _ _ _ _ _ _ _ _) (by simp[Value.oneCell']) (by unfold maxLen;omega) (by omega) (Nat.zero_le _) ?_
         intro u7 w7 hown7 hgr7 hlies7
         obtain⟨g7,c7',rfl⟩:=own_shape hown7
         have hb7:w7.heap[P]?=_:=(hgr7.block P lPA (fun e=>HPA.out.apart.1 e.symm)).trans HPA.out.box
         obtain⟨t0,t1,t2,t3,t4⟩:=box5P hb7
         have f7:=thawT hb7
         have l7:P<w7.heap.size:=(Array.getElem?_eq_some_iff.1 hb7).1
         have HM:Hid (PAt Xs (w7.setCell ⟨P,2,none⟩ (.slice g7 (A+1) c7')) P U (.slice g7 (A+1) c7') (A+1) (.slice na Bn nc) Bn tx s2∧Fr (fun g=>g=P∨(Value.slice pa A pc).ownBlock=some g) W (w7.setCell ⟨P,2,none⟩ (.slice g7 (A+1) c7'))∧∀ g,(Value.slice g7 (A+1) c7').ownBlock=some g->(Value.slice pa A pc).ownBlock=some g∨W.heap.size<=g):=by
          refine⟨HPA.out.pushP (n:=0) HCS.out.1 (pgs_fr (S:=fun _=>False) HCS.out.2 (Fr.of_below hal2) (fun _ e=>e.elim)) HNM.out (HNC.out.below hal2) hown7 hgr7,(HFV.out.trans ((Fr.of_below hal2).trans (Fr.of_grown hgr7 (fun g e=>.inr e)))).trans ((fr_setT w7 P 2 _).weak (fun g e=>.inl e)),fun g e=>?_⟩
          rcases hlies7 with h9 | h9
          ·rw[h9] at e;exact .inl e
          ·exact .inr (Nat.le_trans HFV.out.size (Nat.le_trans hal2.size (h9 g e)))
         clear hown7 hgr7 hlies7 hb7 hrow HPA hal2 z0 z1 z2 z3 z4 lPA
         refine hK.out _ _ (trivial) (fun hHeld=>?_)
         clear hK K
         refine tY 8 (.pointer (some ⟨P,0,none⟩)) (.f (.s (.s (.s .z)))) (by kernel_rfl) (by rfl) ?_ ‹_› ?_
         ·intro wq hSw;go_simp
         refine tY 9 (.pointer (some ⟨P,2,none⟩)) (.f (.s (.s (.s (.s .z))))) (by kernel_rfl) (by rfl) ?_ ‹_› ?_
         ·intro wq hSw;go_simp
         try simp only[Act.put,q1,q2,q3]
         refine wpAnyH_ready (rs:=[10]) (by kernel_rfl) (by simp) ?_
         refine rdA (.t .z) (fun K hK=>?_) AllReadyH.nil
         go_simp
         refine hK.out _ _ (trivial) (fun hHeld=>?_)
         clear hK K
         try simp only[Act.put,q1,q2,q3]
         refine wpAnyH_done (by kernel_rfl) ?_ _
         refine NoPanic.normal ?_
         clear hHeld t0 t1 t2 t3 t4 f7 l7
         go_wp2_with fail
         go_meet
         exact⟨g7,c7',HM⟩
        ·go_simp
         have hal2:=(Below.refl V.heap.size V).alloc (Nat.le_refl _) (.cells #[.int .i64 4,.int .i64 tx,.int .i64 0,.int .i64 0,.int .i64 0,.slice none 0 0,.slice none 0 0,.int .i64 nx,.string dd] 93)
         have HPA:Hid (PAt Xs (V.alloc (.cells #[.int .i64 4,.int .i64 tx,.int .i64 0,.int .i64 0,.int .i64 0,.slice none 0 0,.slice none 0 0,.int .i64 nx,.string dd] 93)) P U (.slice pa A pc) A (.slice na Bn nc) Bn tx s2):=HPV.out.below hal2
         obtain⟨z0,z1,z2,z3,z4⟩:=box5P HPA.out.box
         have lPA:P<(V.alloc (.cells #[.int .i64 4,.int .i64 tx,.int .i64 0,.int .i64 0,.int .i64 0,.slice none 0 0,.slice none 0 0,.int .i64 nx,.string dd] 93)).heap.size:=HPA.out.lt (.inl rfl)
         refine hK.out _ _ (trivial) (fun hHeld=>?_)
         clear hK K
         try simp only[Act.put,q1,q2,q3]
         refine wpAnyH_ready (rs:=[4]) (by kernel_rfl) (by simp) ?_
         refine rdA (.s (.s (.s (.s .z)))) (fun K hK=>?_) AllReadyH.nil
         go_simp
         refine hK.out _ _ (trivial) (fun hHeld=>?_)
         clear hK K
         try simp only[Act.put,q1,q2,q3]
         refine wpAnyH_ready (rs:=[7]) (by kernel_rfl) (by simp) ?_
         refine rdA (.f (.s (.s .z))) (fun K hK=>?_) AllReadyH.nil
         have hrow:=owns_below HRP.out hal2
         refine step_append_T rfl _ _ 30 rfl 0 93 ip _ 9 112 Tryz.underlying30 hip hp0 hp1 hp2 rfl (by decide) (.slice pa A pc) A css.flatten (by simp[Act.eval]) hrow ⟨V.heap.size,0,none⟩ 1 1 [.int .i64 4,.int .i64 tx,.int .i64 0,.int .i64 0,.int .i64 0,.slice none 0 0,.slice none 0 0,.int .i64 nx,.string dd] (by simp[Act.eval]) rfl (cell_nine_newP _ _ _ _ _ _ _ _ _ _ _) (by simp[Value.oneCell']) (by unfold maxLen;omega) (by omega) (Nat.zero_le _) ?_
         intro u7 w7 hown7 hgr7 hlies7
         obtain⟨g7,c7',rfl⟩:=own_shape hown7
         have hb7:w7.heap[P]?=_:=(hgr7.block P lPA (fun e=>HPA.out.apart.1 e.symm)).trans HPA.out.box
         obtain⟨t0,t1,t2,t3,t4⟩:=box5P hb7
         have f7:=thawT hb7
         have l7:P<w7.heap.size:=(Array.getElem?_eq_some_iff.1 hb7).1
         have HM:Hid (PAt Xs (w7.setCell ⟨P,2,none⟩ (.slice g7 (A+1) c7')) P U (.slice g7 (A+1) c7') (A+1) (.slice na Bn nc) Bn tx s2∧Fr (fun g=>g=P∨(Value.slice pa A pc).ownBlock=some g) W (w7.setCell ⟨P,2,none⟩ (.slice g7 (A+1) c7'))∧∀ g,(Value.slice g7 (A+1) c7').ownBlock=some g->(Value.slice pa A pc).ownBlock=some g∨W.heap.size<=g):=by
          refine⟨HPA.out.pushP (n:=0) HCS.out.1 (pgs_fr (S:=fun _=>False) HCS.out.2 (Fr.of_below hal2) (fun _ e=>e.elim)) HNM.out (HNC.out.below hal2) hown7 hgr7,(HFV.out.trans ((Fr.of_below hal2).trans (Fr.of_grown hgr7 (fun g e=>.inr e)))).trans ((fr_setT w7 P 2 _).weak (fun g e=>.inl e)),fun g e=>?_⟩
          rcases hlies7 with h9 | h9
          ·rw[h9] at e;exact .inl e
          ·exact .inr (Nat.le_trans HFV.out.size (Nat.le_trans hal2.size (h9 g e)))
         clear hown7 hgr7 hlies7 hb7 hrow HPA hal2 z0 z1 z2 z3 z4 lPA
         refine hK.out _ _ (trivial) (fun hHeld=>?_)
         clear hK K
         refine tY 8 (.pointer (some ⟨P,0,none⟩)) (.f (.s (.s (.s .z)))) (by kernel_rfl) (by rfl) ?_ ‹_› ?_
         ·intro wq hSw;go_simp
         refine tY 9 (.pointer (some ⟨P,2,none⟩)) (.f (.s (.s (.s (.s .z))))) (by kernel_rfl) (by rfl) ?_ ‹_› ?_
         ·intro wq hSw;go_simp
         try simp only[Act.put,q1,q2,q3]
         refine wpAnyH_ready (rs:=[10]) (by kernel_rfl) (by simp) ?_
         refine rdA (.t .z) (fun K hK=>?_) AllReadyH.nil
         go_simp
         refine hK.out _ _ (trivial) (fun hHeld=>?_)
         clear hK K
         try simp only[Act.put,q1,q2,q3]
         refine wpAnyH_done (by kernel_rfl) ?_ _
         refine NoPanic.normal ?_
         clear hHeld t0 t1 t2 t3 t4 f7 l7
         go_wp2_with fail
         go_meet
         exact⟨g7,c7',HM⟩
      case rest =>
       obtain⟨pa2,pc2,HC⟩:=hcut
       obtain⟨hc1,hc2,hc3⟩:=HC.out
       have hGp:(Value.slice pa A pc).ownBlock≠some G:=fun e=>by
        obtain⟨xs9,hp9⟩:=HPW.out.prow
        obtain⟨cur,hk9⟩:=own_ty HOW0.out (g:=G) rfl
        exact own_ne_ty hp9 hk9 (by decide) e
       have HOW:Hid (wc.ownsRow N 2 1 (.slice (some ⟨G,0,none⟩) j xc) j (rowsOf intCells ns)):=owns_fr HOW0.out hc2 (fun g e e'=>by
        have eg:G=g:=Option.some.inj e
        subst eg
        rcases e' with e' | e'
        ·omega
        ·exact hGp e')
       have HZ2:Hid (∀ g,ZP P U (.slice pa2 (A+1) pc2) (.slice na Bn nc) g->ZP P U pv nv g∨N<=g):=ZP.next HZ.out hc3 (fun g e=>.inl e) (by omega)
       have HFc:Hid (Fr (ZP P U pv nv) w wc):=Fr.zp (N:=N) HFW.out (by rw[hN];exact HZ.out) hc2 (fun g e=>.inl (e.elim .inl (fun e=>.inr (.inr (.inl e)))))
       have hsc:=HFc.out.size
       have HPW3:Hid (PAt Xs wc P U (.slice pa2 (A+1) pc2) (A+1) (.slice na Bn nc) Bn tx s2):=hc1
       have hGn:=HG.out
       have HGN:Hid ((Value.slice na Bn nc).ownBlock≠some G):=hGn
       clear hc1 hc2 hc3 HC hGp hGn HPW HOW0 HFW kK lKW HZ HG HNW
       clear W
       generalize wc=W at HOW HFc hsc HPW3 ⊢
       have HPW:=HPW3
       have HNW2:Hid (s2.log[Bn]?=some (y,pc9)):=by show _=_;rw[HLI3.out.2];exact HLI3.out.1
       clear HPW3
       have HNW:=HNW2
       clear HNW2
       go_upto_region 17 with fail
       have bV0:=(Below.refl W.heap.size W).drew
       refine wp_region_noPanic ?_
       refine wp_region_held_drew (S:=(fun _:World=>True)) (by kernel_rfl) (trivial) (fun hHeld=>?_)
       clear hHeld
       generalize W.drew=V at bV0 ⊢
       have hHeld:=trivial
       have HPV:Hid (PAt Xs V P U (.slice pa2 (A+1) pc2) (A+1) (.slice na Bn nc) Bn tx s2):=HPW.out.below bV0
       have HFV:Hid (Fr (fun g=>g=P∨(Value.slice na Bn nc).ownBlock=some g) W V):=Fr.of_below bV0
       have hrV:=HPV.out.nms
       have HNM:Hid (s2.log[Bn]?=some (y,pc9)):=HNW.out
       have HRN:Hid (V.ownsRow 0 2 1 (.slice na Bn nc) Bn (rowsOf intCells ((s2.log.take Bn).map Prod.fst))):=hrV
       clear hrV
       obtain⟨q0,q1,q2,q3,q4⟩:=box5P HPV.out.box
       have lP:P<V.heap.size:=HPV.out.lt (.inl rfl)
       have dV:=HY.out V (owns_below HOW.out bV0)
       have lGV:G<V.heap.size:=(owns_below HOW.out bV0).lt G rfl |>.2
       clear bV0
       refine tY 0 (.pointer (some ⟨P,0,none⟩)) .z (by kernel_rfl) (by rfl) ?_ ‹_› ?_
       ·intro wq hSw;go_simp
       refine tY 1 (.pointer (some ⟨P,0,none⟩)) (.s .z) (by kernel_rfl) (by rfl) ?_ ‹_› ?_
       ·intro wq hSw;go_simp
       refine tY 2 (.pointer (some ⟨P,0,none⟩)) (.s (.s .z)) (by kernel_rfl) (by rfl) ?_ ‹_› ?_
       ·intro wq hSw;go_simp
       refine tY 3 (.pointer (some ⟨P,3,none⟩)) (.s (.s (.s .z))) (by kernel_rfl) (by rfl) ?_ ‹_› ?_
       ·intro wq hSw;go_simp
       try simp only[Act.put,q1,q2,q3]
       refine tY 5 (.slice (some ⟨G,0,none⟩) j xc) (.f .z) (by kernel_rfl) (by rfl) ?_ ‹_› ?_
       ·intro wq hSw;go_simp
       refine tY 6 (.int .i64 (i:Int)) (.f (.s .z)) (by kernel_rfl) (by rfl) ?_ ‹_› ?_
       ·intro wq hSw;go_simp
       refine tY 7 (.pointer (some ⟨G,i,none⟩)) (.f (.s (.s .z))) (by kernel_rfl) (by rfl) ?_ ‹_› ?_
       ·intro wq hSw;go_simp
       try simp only[Act.put,q1,q2,q3]
       refine wpAnyH_ready (rs:=[4,8]) (by kernel_rfl) (by simp) ?_
       refine rdA (.s (.s (.s (.s .z)))) (fun K hK=>?_) ?_
       rotate_left 1
       refine rdA (.f (.s (.s (.s .z)))) (fun K hK=>?_) ?_
       rotate_left 1
       exact AllReadyH.nil
       ·go_simp
        refine hK.out _ _ (trivial) (fun hHeld=>?_)
        clear hK K
        try simp only[Act.put,q1,q2,q3]
        refine wpAnyH_ready (rs:=[8]) (by kernel_rfl) (by simp) ?_
        refine rdA (.f (.s (.s (.s .z)))) (fun K hK=>?_) AllReadyH.nil
        go_simp
        refine hK.out _ _ (trivial) (fun hHeld=>?_)
        clear hK K
        try simp only[Act.put,q1,q2,q3]
        refine wpAnyH_ready (rs:=[9]) (by kernel_rfl) (by simp) ?_
        refine rdA (.f (.s (.s (.s (.s .z))))) (fun K hK=>?_) AllReadyH.nil
        go_simp
        have hal2:=(Below.refl V.heap.size V).alloc (Nat.le_refl _) (.cells #[.int .i64 y] 2)
        have HPA:Hid (PAt Xs (V.alloc (.cells #[.int .i64 y] 2)) P U (.slice pa2 (A+1) pc2) (A+1) (.slice na Bn nc) Bn tx s2):=HPV.out.below hal2
        obtain⟨z0,z1,z2,z3,z4⟩:=box5P HPA.out.box
        have lPA:P<(V.alloc (.cells #[.int .i64 y] 2)).heap.size:=HPA.out.lt (.inl rfl)
        refine hK.out _ _ (trivial) (fun hHeld=>?_)
        clear hK K
        try simp only[Act.put,q1,q2,q3]
        refine wpAnyH_ready (rs:=[10]) (by kernel_rfl) (by simp) ?_
        refine rdA (.t .z) (fun K hK=>?_) AllReadyH.nil
        have hrow:=owns_below HRN.out hal2
        refine step_append_T rfl _ _ 25 rfl 0 2 ii _ 1 8 Tryz.underlying25 hii hj0 hj1 hj2 rfl (by decide) (.slice na Bn nc) Bn (rowsOf intCells ((s2.log.take Bn).map Prod.fst)) (by simp[Act.eval]) hrow ⟨V.heap.size,0,none⟩ 1 1 [.int .i64 y] (by simp[Act.eval]) rfl (cell_one_newP _ _ _) (by simp[Value.oneCell']) (by unfold maxLen;omega) (by omega) (Nat.zero_le _) ?_
        intro u7 w7 hown7 hgr7 hlies7
        obtain⟨g7,c7',rfl⟩:=own_shape hown7
        have hb7:w7.heap[P]?=_:=(hgr7.block P lPA (fun e=>HPA.out.apart.2.2.1 e.symm)).trans HPA.out.box
        obtain⟨t0,t1,t2,t3,t4⟩:=box5P hb7
        have f7:=thawT hb7
        have l7:P<w7.heap.size:=(Array.getElem?_eq_some_iff.1 hb7).1
        have HM:Hid (PAt Xs (w7.setCell ⟨P,3,none⟩ (.slice g7 (Bn+1) c7')) P U (.slice pa2 (A+1) pc2) (A+1) (.slice g7 (Bn+1) c7') (Bn+1) tx s2∧Fr (fun g=>g=P∨(Value.slice na Bn nc).ownBlock=some g) W (w7.setCell ⟨P,3,none⟩ (.slice g7 (Bn+1) c7'))∧∀ g,(Value.slice g7 (Bn+1) c7').ownBlock=some g->(Value.slice na Bn nc).ownBlock=some g∨W.heap.size<=g):=by
         refine⟨HPA.out.pushN HNM.out hown7 hgr7,(HFV.out.trans ((Fr.of_below hal2).trans (Fr.of_grown hgr7 (fun g e=>.inr e)))).trans ((fr_setT w7 P 3 _).weak (fun g e=>.inl e)),fun g e=>?_⟩
         rcases hlies7 with h9 | h9
         ·rw[h9] at e;exact .inl e
         ·exact .inr (Nat.le_trans HFV.out.size (Nat.le_trans hal2.size (h9 g e)))
        clear hown7 hgr7 hlies7 hb7 hrow HPA hal2 z0 z1 z2 z3 z4 lPA
        refine hK.out _ _ (trivial) (fun hHeld=>?_)
        clear hK K
        refine tY 11 (.pointer (some ⟨P,0,none⟩)) (.t (.s .z)) (by kernel_rfl) (by rfl) ?_ ‹_› ?_
        ·intro wq hSw;go_simp
        refine tY 12 (.pointer (some ⟨P,3,none⟩)) (.t (.s (.s .z))) (by kernel_rfl) (by rfl) ?_ ‹_› ?_
        ·intro wq hSw;go_simp
        try simp only[Act.put,q1,q2,q3]
        refine wpAnyH_ready (rs:=[13]) (by kernel_rfl) (by simp) ?_
        refine rdA (.t (.s (.s (.s .z)))) (fun K hK=>?_) AllReadyH.nil
        go_simp
        refine hK.out _ _ (trivial) (fun hHeld=>?_)
        clear hK K
        try simp only[Act.put,q1,q2,q3]
        refine wpAnyH_done (by kernel_rfl) ?_ _
        refine NoPanic.normal ?_
        clear hHeld t0 t1 t2 t3 t4 f7 l7
        obtain⟨hc1,hc2,hc3⟩:=HM.out
        generalize w7.setCell ⟨P,3,none⟩ (.slice g7 (Bn+1) c7')=wc at hc1 hc2 ⊢
        have hGl2:=HOW.out.lt G rfl
        have HO9:Hid (wc.ownsRow N 2 1 (.slice (some ⟨G,0,none⟩) j xc) j (rowsOf intCells ns)):=owns_fr HOW.out hc2 (fun g e e'=>by
         have eg:G=g:=Option.some.inj e
         subst eg
         rcases e' with e' | e'
         ·omega
         ·exact HGN.out e')
        have HZ9:Hid (∀ g,ZP P U (.slice pa2 (A+1) pc2) (.slice g7 (Bn+1) c7') g->ZP P U pv nv g∨N<=g):=ZP.next HZ2.out (fun g e=>.inl e) hc3 (by omega)
        have HF9:Hid (Fr (ZP P U pv nv) w wc):=Fr.zp (N:=N) HFc.out (by rw[hN];exact HZ2.out) hc2 (fun g e=>.inl (e.elim .inl (fun e=>.inr (.inr (.inr e)))))
        have HG9:Hid ((Value.slice g7 (Bn+1) c7').ownBlock≠some G):=fun e=>by
         rcases hc3 G e with e | e
         ·exact HGN.out e
         ·omega
        have HP9:Hid (PAt Xs wc P U (.slice pa2 (a+(i+1)) pc2) (a+(i+1)) (.slice g7 (b+(i+1)) c7') (b+(i+1)) tx s2):=by
         show PAt _ _ _ _ _ _ _ _ _ _
         rw[<-Nat.add_assoc,<-Nat.add_assoc,HAB.out.1,HAB.out.2]
         exact hc1
        have HZ10:Hid (∀ g,ZP P U (.slice pa2 (a+(i+1)) pc2) (.slice g7 (b+(i+1)) c7') g->ZP P U pv nv g∨N<=g):=by
         show ∀ g,_
         rw[<-Nat.add_assoc,<-Nat.add_assoc,HAB.out.1,HAB.out.2]
         exact HZ9.out
        have HG10:Hid ((Value.slice g7 (b+(i+1)) c7').ownBlock≠some G):=by
         show _≠_
         rw[<-Nat.add_assoc,HAB.out.2]
         exact HG9.out
        clear hc1 hc2 hc3 HM hGl2 HPW HOW HFc HZ2 HGN HZ9 HG9
        go_wp2_with fail
        go_roundg (j - (i+1))
        case measure=>omega
        case rel=>exact⟨i+1,pa2,pc2,g7,c7',by omega,rfl,by go_num,HO9,HP9,HF9,HZ10,HG10⟩
       ·go_simp
        refine hK.out _ _ (trivial) (fun hHeld=>?_)
        clear hK K
        try simp only[Act.put,q1,q2,q3]
        refine wpAnyH_ready (rs:=[4,9]) (by kernel_rfl) (by simp) ?_
        refine rdA (.s (.s (.s (.s .z)))) (fun K hK=>?_) ?_
        rotate_left 1
        refine rdA (.f (.s (.s (.s (.s .z))))) (fun K hK=>?_) ?_
        rotate_left 1
        exact AllReadyH.nil
        ·go_simp
         refine hK.out _ _ (trivial) (fun hHeld=>?_)
         clear hK K
         try simp only[Act.put,q1,q2,q3]
         refine wpAnyH_ready (rs:=[9]) (by kernel_rfl) (by simp) ?_
         refine rdA (.f (.s (.s (.s (.s .z))))) (fun K hK=>?_) AllReadyH.nil
         go_simp
         have hal2:=(Below.refl V.heap.size V).alloc (Nat.le_refl _) (.cells #[.int .i64 y] 2)
         have HPA:Hid (PAt Xs (V.alloc (.cells #[.int .i64 y] 2)) P U (.slice pa2 (A+1) pc2) (A+1) (.slice na Bn nc) Bn tx s2):=HPV.out.below hal2
         obtain⟨z0,z1,z2,z3,z4⟩:=box5P HPA.out.box
         have lPA:P<(V.alloc (.cells #[.int .i64 y] 2)).heap.size:=HPA.out.lt (.inl rfl)
         refine hK.out _ _ (trivial) (fun hHeld=>?_)
         clear hK K
         try simp only[Act.put,q1,q2,q3]
         refine wpAnyH_ready (rs:=[10]) (by kernel_rfl) (by simp) ?_
         refine rdA (.t .z) (fun K hK=>?_) AllReadyH.nil
         have hrow:=owns_below HRN.out hal2
         refine step_append_T rfl _ _ 25 rfl 0 2 ii _ 1 8 Tryz.underlying25 hii hj0 hj1 hj2 rfl (by decide) (.slice na Bn nc) Bn (rowsOf intCells ((s2.log.take Bn).map Prod.fst)) (by simp[Act.eval]) hrow ⟨V.heap.size,0,none⟩ 1 1 [.int .i64 y] (by simp[Act.eval]) rfl (cell_one_newP _ _ _) (by simp[Value.oneCell']) (by unfold maxLen;omega) (by omega) (Nat.zero_le _) ?_
         intro u7 w7 hown7 hgr7 hlies7
         obtain⟨g7,c7',rfl⟩:=own_shape hown7
         have hb7:w7.heap[P]?=_:=(hgr7.block P lPA (fun e=>HPA.out.apart.2.2.1 e.symm)).trans HPA.out.box
         obtain⟨t0,t1,t2,t3,t4⟩:=box5P hb7
         have f7:=thawT hb7
         have l7:P<w7.heap.size:=(Array.getElem?_eq_some_iff.1 hb7).1
         have HM:Hid (PAt Xs (w7.setCell ⟨P,3,none⟩ (.slice g7 (Bn+1) c7')) P U (.slice pa2 (A+1) pc2) (A+1) (.slice g7 (Bn+1) c7') (Bn+1) tx s2∧Fr (fun g=>g=P∨(Value.slice na Bn nc).ownBlock=some g) W (w7.setCell ⟨P,3,none⟩ (.slice g7 (Bn+1) c7'))∧∀ g,(Value.slice g7 (Bn+1) c7').ownBlock=some g->(Value.slice na Bn nc).ownBlock=some g∨W.heap.size<=g):=by
          refine⟨HPA.out.pushN HNM.out hown7 hgr7,(HFV.out.trans ((Fr.of_below hal2).trans (Fr.of_grown hgr7 (fun g e=>.inr e)))).trans ((fr_setT w7 P 3 _).weak (fun g e=>.inl e)),fun g e=>?_⟩
          rcases hlies7 with h9 | h9
          ·rw[h9] at e;exact .inl e
          ·exact .inr (Nat.le_trans HFV.out.size (Nat.le_trans hal2.size (h9 g e)))
         clear hown7 hgr7 hlies7 hb7 hrow HPA hal2 z0 z1 z2 z3 z4 lPA
         refine hK.out _ _ (trivial) (fun hHeld=>?_)
         clear hK K
         refine tY 11 (.pointer (some ⟨P,0,none⟩)) (.t (.s .z)) (by kernel_rfl) (by rfl) ?_ ‹_› ?_
         ·intro wq hSw;go_simp
         refine tY 12 (.pointer (some ⟨P,3,none⟩)) (.t (.s (.s .z))) (by kernel_rfl) (by rfl) ?_ ‹_› ?_
         ·intro wq hSw;go_simp
         try simp only[Act.put,q1,q2,q3]
         refine wpAnyH_ready (rs:=[13]) (by kernel_rfl) (by simp) ?_
         refine rdA (.t (.s (.s (.s .z)))) (fun K hK=>?_) AllReadyH.nil
         go_simp
         refine hK.out _ _ (trivial) (fun hHeld=>?_)
         clear hK K
         try simp only[Act.put,q1,q2,q3]
         refine wpAnyH_done (by kernel_rfl) ?_ _
         refine NoPanic.normal ?_
         clear hHeld t0 t1 t2 t3 t4 f7 l7
         obtain⟨hc1,hc2,hc3⟩:=HM.out
         generalize w7.setCell ⟨P,3,none⟩ (.slice g7 (Bn+1) c7')=wc at hc1 hc2 ⊢
         have hGl2:=HOW.out.lt G rfl
         have HO9:Hid (wc.ownsRow N 2 1 (.slice (some ⟨G,0,none⟩) j xc) j (rowsOf intCells ns)):=owns_fr HOW.out hc2 (fun g e e'=>by
          have eg:G=g:=Option.some.inj e
          subst eg
          rcases e' with e' | e'
          ·omega
          ·exact HGN.out e')
         have HZ9:Hid (∀ g,ZP P U (.slice pa2 (A+1) pc2) (.slice g7 (Bn+1) c7') g->ZP P U pv nv g∨N<=g):=ZP.next HZ2.out (fun g e=>.inl e) hc3 (by omega)
         have HF9:Hid (Fr (ZP P U pv nv) w wc):=Fr.zp (N:=N) HFc.out (by rw[hN];exact HZ2.out) hc2 (fun g e=>.inl (e.elim .inl (fun e=>.inr (.inr (.inr e)))))
         have HG9:Hid ((Value.slice g7 (Bn+1) c7').ownBlock≠some G):=fun e=>by
          rcases hc3 G e with e | e
          ·exact HGN.out e
          ·omega
         have HP9:Hid (PAt Xs wc P U (.slice pa2 (a+(i+1)) pc2) (a+(i+1)) (.slice g7 (b+(i+1)) c7') (b+(i+1)) tx s2):=by
          show PAt _ _ _ _ _ _ _ _ _ _
          rw[<-Nat.add_assoc,<-Nat.add_assoc,HAB.out.1,HAB.out.2]
          exact hc1
         have HZ10:Hid (∀ g,ZP P U (.slice pa2 (a+(i+1)) pc2) (.slice g7 (b+(i+1)) c7') g->ZP P U pv nv g∨N<=g):=by
          show ∀ g,_
          rw[<-Nat.add_assoc,<-Nat.add_assoc,HAB.out.1,HAB.out.2]
          exact HZ9.out
         have HG10:Hid ((Value.slice g7 (b+(i+1)) c7').ownBlock≠some G):=by
          show _≠_
          rw[<-Nat.add_assoc,HAB.out.2]
          exact HG9.out
         clear hc1 hc2 hc3 HM hGl2 HPW HOW HFc HZ2 HGN HZ9 HG9
         go_wp2_with fail
         go_roundg (j - (i+1))
         case measure=>omega
         case rel=>exact⟨i+1,pa2,pc2,g7,c7',by omega,rfl,by go_num,HO9,HP9,HF9,HZ10,HG10⟩
        ·go_simp
         have hal2:=(Below.refl V.heap.size V).alloc (Nat.le_refl _) (.cells #[.int .i64 y] 2)
         have HPA:Hid (PAt Xs (V.alloc (.cells #[.int .i64 y] 2)) P U (.slice pa2 (A+1) pc2) (A+1) (.slice na Bn nc) Bn tx s2):=HPV.out.below hal2
         obtain⟨z0,z1,z2,z3,z4⟩:=box5P HPA.out.box
         have lPA:P<(V.alloc (.cells #[.int .i64 y] 2)).heap.size:=HPA.out.lt (.inl rfl)
         refine hK.out _ _ (trivial) (fun hHeld=>?_)
         clear hK K
         try simp only[Act.put,q1,q2,q3]
         refine wpAnyH_ready (rs:=[4]) (by kernel_rfl) (by simp) ?_
         refine rdA (.s (.s (.s (.s .z)))) (fun K hK=>?_) AllReadyH.nil
         go_simp
         refine hK.out _ _ (trivial) (fun hHeld=>?_)
         clear hK K
         try simp only[Act.put,q1,q2,q3]
         refine wpAnyH_ready (rs:=[10]) (by kernel_rfl) (by simp) ?_
         refine rdA (.t .z) (fun K hK=>?_) AllReadyH.nil
         have hrow:=owns_below HRN.out hal2
         refine step_append_T rfl _ _ 25 rfl 0 2 ii _ 1 8 Tryz.underlying25 hii hj0 hj1 hj2 rfl (by decide) (.slice na Bn nc) Bn (rowsOf intCells ((s2.log.take Bn).map Prod.fst)) (by simp[Act.eval]) hrow ⟨V.heap.size,0,none⟩ 1 1 [.int .i64 y] (by simp[Act.eval]) rfl (cell_one_newP _ _ _) (by simp[Value.oneCell']) (by unfold maxLen;omega) (by omega) (Nat.zero_le _) ?_
         intro u7 w7 hown7 hgr7 hlies7
         obtain⟨g7,c7',rfl⟩:=own_shape hown7
         have hb7:w7.heap[P]?=_:=(hgr7.block P lPA (fun e=>HPA.out.apart.2.2.1 e.symm)).trans HPA.out.box
         obtain⟨t0,t1,t2,t3,t4⟩:=box5P hb7
         have f7:=thawT hb7
         have l7:P<w7.heap.size:=(Array.getElem?_eq_some_iff.1 hb7).1
         have HM:Hid (PAt Xs (w7.setCell ⟨P,3,none⟩ (.slice g7 (Bn+1) c7')) P U (.slice pa2 (A+1) pc2) (A+1) (.slice g7 (Bn+1) c7') (Bn+1) tx s2∧Fr (fun g=>g=P∨(Value.slice na Bn nc).ownBlock=some g) W (w7.setCell ⟨P,3,none⟩ (.slice g7 (Bn+1) c7'))∧∀ g,(Value.slice g7 (Bn+1) c7').ownBlock=some g->(Value.slice na Bn nc).ownBlock=some g∨W.heap.size<=g):=by
          refine⟨HPA.out.pushN HNM.out hown7 hgr7,(HFV.out.trans ((Fr.of_below hal2).trans (Fr.of_grown hgr7 (fun g e=>.inr e)))).trans ((fr_setT w7 P 3 _).weak (fun g e=>.inl e)),fun g e=>?_⟩
          rcases hlies7 with h9 | h9
          ·rw[h9] at e;exact .inl e
          ·exact .inr (Nat.le_trans HFV.out.size (Nat.le_trans hal2.size (h9 g e)))
         clear hown7 hgr7 hlies7 hb7 hrow HPA hal2 z0 z1 z2 z3 z4 lPA
         refine hK.out _ _ (trivial) (fun hHeld=>?_)
         clear hK K
         refine tY 11 (.pointer (some ⟨P,0,none⟩)) (.t (.s .z)) (by kernel_rfl) (by rfl) ?_ ‹_› ?_
         ·intro wq hSw;go_simp
         refine tY 12 (.pointer (some ⟨P,3,none⟩)) (.t (.s (.s .z))) (by kernel_rfl) (by rfl) ?_ ‹_› ?_
         ·intro wq hSw;go_simp
         try simp only[Act.put,q1,q2,q3]
         refine wpAnyH_ready (rs:=[13]) (by kernel_rfl) (by simp) ?_
         refine rdA (.t (.s (.s (.s .z)))) (fun K hK=>?_) AllReadyH.nil
         go_simp
         refine hK.out _ _ (trivial) (fun hHeld=>?_)
         clear hK K
         try simp only[Act.put,q1,q2,q3]
         refine wpAnyH_done (by kernel_rfl) ?_ _
         refine NoPanic.normal ?_
         clear hHeld t0 t1 t2 t3 t4 f7 l7
         obtain⟨hc1,hc2,hc3⟩:=HM.out
         generalize w7.setCell ⟨P,3,none⟩ (.slice g7 (Bn+1) c7')=wc at hc1 hc2 ⊢
         have hGl2:=HOW.out.lt G rfl
         have HO9:Hid (wc.ownsRow N 2 1 (.slice (some ⟨G,0,none⟩) j xc) j (rowsOf intCells ns)):=owns_fr HOW.out hc2 (fun g e e'=>by
          have eg:G=g:=Option.some.inj e
          subst eg
          rcases e' with e' | e'
          ·omega
          ·exact HGN.out e')
         have HZ9:Hid (∀ g,ZP P U (.slice pa2 (A+1) pc2) (.slice g7 (Bn+1) c7') g->ZP P U pv nv g∨N<=g):=ZP.next HZ2.out (fun g e=>.inl e) hc3 (by omega)
         have HF9:Hid (Fr (ZP P U pv nv) w wc):=Fr.zp (N:=N) HFc.out (by rw[hN];exact HZ2.out) hc2 (fun g e=>.inl (e.elim .inl (fun e=>.inr (.inr (.inr e)))))
         have HG9:Hid ((Value.slice g7 (Bn+1) c7').ownBlock≠some G):=fun e=>by
          rcases hc3 G e with e | e
          ·exact HGN.out e
          ·omega
         have HP9:Hid (PAt Xs wc P U (.slice pa2 (a+(i+1)) pc2) (a+(i+1)) (.slice g7 (b+(i+1)) c7') (b+(i+1)) tx s2):=by
          show PAt _ _ _ _ _ _ _ _ _ _
          rw[<-Nat.add_assoc,<-Nat.add_assoc,HAB.out.1,HAB.out.2]
          exact hc1
         have HZ10:Hid (∀ g,ZP P U (.slice pa2 (a+(i+1)) pc2) (.slice g7 (b+(i+1)) c7') g->ZP P U pv nv g∨N<=g):=by
          show ∀ g,_
          rw[<-Nat.add_assoc,<-Nat.add_assoc,HAB.out.1,HAB.out.2]
          exact HZ9.out
         have HG10:Hid ((Value.slice g7 (b+(i+1)) c7').ownBlock≠some G):=by
          show _≠_
          rw[<-Nat.add_assoc,HAB.out.2]
          exact HG9.out
         clear hc1 hc2 hc3 HM hGl2 HPW HOW HFc HZ2 HGN HZ9 HG9
         go_wp2_with fail
         go_roundg (j - (i+1))
         case measure=>omega
         case rel=>exact⟨i+1,pa2,pc2,g7,c7',by omega,rfl,by go_num,HO9,HP9,HF9,HZ10,HG10⟩
    ·obtain rfl:i=j:=by omega
     have d0:=hOc 0 (by omega)
     rw[ints_getP ns 0 (by rw[HL.out];omega)] at d0
     have HV:Hid (valP v s=(ns.getD 0 0,s2)):=by
      show _=_
      unfold valP
      rw[HJ.out,HS2.out.2,HS2.out.1]
      cases ns with
      | nil=>have:=HL.out;simp at this;omega
      | cons x r=>rfl
     generalize ns.getD 0 0=y at d0 HV
     clear hOc
     go_wp2_with fail
     go_ret
     rw[HV.out,hN]
     exact⟨_,_,rfl,HP.out,HF.out,HZ.out⟩
end Go.Proofs.YtkhglgalbifcnaaGreat
